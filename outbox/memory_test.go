package outbox_test

import (
	"slices"
	"testing"
	"unsafe"

	"fanlight/api"
	"fanlight/outbox"
)

// span is memory, from its first octet to behind its last.
type span struct {
	from, to uintptr
}

// spanOf is the memory of l, to its whole capacity.
func spanOf[T any](l []T) []span {
	if cap(l) == 0 {
		return nil
	}
	var one T
	from := uintptr(unsafe.Pointer(unsafe.SliceData(l)))
	return []span{{from, from + uintptr(cap(l))*unsafe.Sizeof(one)}}
}

// spansOfValue are the memory of all lists of v.
func spansOfValue(v api.Value) []span {
	spans := append(spanOf(v.Keys), spanOf(v.Items)...)
	for _, part := range v.Items {
		spans = append(spans, spansOfValue(part)...)
	}
	return spans
}

func spansOfItems(l []api.Item) []span {
	spans := spanOf(l)
	for _, it := range l {
		spans = append(spans, spansOfValue(it.Effect.Arg)...)
	}
	return spans
}

func spansOfEffects(l []api.Effect) []span {
	spans := spanOf(l)
	for _, e := range l {
		spans = append(spans, spansOfValue(e.Arg)...)
	}
	return spans
}

// overlap tells whether two of the spans lie in one memory.
func overlap(lists ...[]span) bool {
	spans := slices.Concat(lists...)
	slices.SortFunc(spans, func(a, b span) int { return int(a.from) - int(b.from) })
	for i := 1; i < len(spans); i++ {
		if spans[i].from < spans[i-1].to {
			return true
		}
	}
	return false
}

// textsWithin tells whether a Name or a text of the items lies in the memory of x.
func textsWithin(x []byte, l []api.Item) bool {
	within := func(s string) bool {
		return s != "" && overlap(spanOf(x), []span{{uintptr(unsafe.Pointer(unsafe.StringData(s))), uintptr(unsafe.Pointer(unsafe.StringData(s))) + uintptr(len(s))}})
	}
	var inValue func(v api.Value) bool
	inValue = func(v api.Value) bool {
		return within(v.Text) || slices.ContainsFunc(v.Keys, within) || slices.ContainsFunc(v.Items, inValue)
	}
	return slices.ContainsFunc(l, func(it api.Item) bool { return within(it.Effect.Name) || inValue(it.Effect.Arg) })
}

// roomyValue is v in memory of its own, with room behind each list, into which a careless call could write.
func roomyValue(v api.Value) api.Value {
	v.Keys = append(slices.Clone(v.Keys), "room")[:len(v.Keys)]
	items := make([]api.Value, 0, len(v.Items)+2)
	for _, part := range v.Items {
		items = append(items, roomyValue(part))
	}
	v.Items = items
	return v
}

func roomy(b outbox.Box) outbox.Box {
	items := make([]api.Item, 0, len(b.Items)+each+2)
	for _, it := range b.Items {
		items = append(items, api.Item{ID: it.ID, Effect: effect(it.Effect.Name, roomyValue(it.Effect.Arg))})
	}
	return outbox.Box{Last: b.Last, Items: items}
}

func roomyEffects(l []api.Effect) []api.Effect {
	effects := make([]api.Effect, 0, len(l)+2)
	for _, e := range l {
		effects = append(effects, effect(e.Name, roomyValue(e.Arg)))
	}
	return effects
}

func behindValue(v api.Value) string {
	v.Keys, v.Items = v.Keys[:cap(v.Keys)], v.Items[:cap(v.Items)]
	s := tellValue(api.Value{Kind: v.Kind, Bits: v.Bits, Text: v.Text, Keys: v.Keys})
	for _, part := range v.Items {
		s += behindValue(part)
	}
	return s
}

// behind tells the items, and what lies in the rooms behind their lists.
func behind(l []api.Item) string {
	l = l[:cap(l)]
	s := ""
	for _, it := range l {
		s += tellItems([]api.Item{{ID: it.ID, Effect: effect(it.Effect.Name, api.Value{})}}) + behindValue(it.Effect.Arg)
	}
	return s
}

func behindEffects(l []api.Effect) string {
	s := ""
	for _, e := range l[:cap(l)] {
		s += e.Name + behindValue(e.Arg)
	}
	return s
}

func scribbleValue(v api.Value) {
	for i := range v.Keys {
		v.Keys[i] = "scribbled"
	}
	for i, part := range v.Items {
		scribbleValue(part)
		v.Items[i] = text("scribbled")
	}
}

// scribble changes all that can be changed of l.
func scribble(l []api.Item) {
	for i, it := range l {
		scribbleValue(it.Effect.Arg)
		l[i] = api.Item{ID: -7}
	}
}

// mustBeAlone holds that two answers of a call share nothing with each other, nor within themselves, nor with the box, that this has stayed, and that a change elsewhere does not come through.
func mustBeAlone(t *testing.T, name string, given outbox.Box, call func(outbox.Box) []api.Item) {
	t.Helper()
	b := roomy(given)
	was := behind(b.Items)
	first, second := call(b), call(b)
	if overlap(spansOfItems(first), spansOfItems(second), spansOfItems(b.Items)) {
		t.Fatalf("P8.5: %s of %s shares memory", name, short(given))
	}
	if behind(b.Items) != was || b.Last != given.Last {
		t.Fatalf("P8.5: %s of %s has changed the box", name, short(given))
	}
	told := tellItems(first)
	scribble(b.Items)
	scribble(second)
	if tellItems(first) != told {
		t.Fatalf("P8.5: %s of %s: a change elsewhere has changed the answer", name, short(given))
	}
}

func TestAnswersShareNothing(t *testing.T) {
	for _, b := range may() {
		l := effects(min(each, most-len(b.Items)))
		mustBeAlone(t, "Add", b, func(b outbox.Box) []api.Item {
			after, _ := outbox.Add(b, b.Last+1, l)
			return after.Items
		})
		for _, id := range append(ids(b.Items[:min(1, len(b.Items))]), 32, 33, 64, 97, 32*b.Last+31, -1) {
			mustBeAlone(t, "Ack", b, func(b outbox.Box) []api.Item {
				after, _, _ := outbox.Ack(b, id)
				return after.Items
			})
		}
		for _, n := range []int{-1, 0, 1, len(b.Items), most + 1} {
			mustBeAlone(t, "Next", b, func(b outbox.Box) []api.Item {
				told, _ := outbox.Next(b, n)
				return told
			})
		}
		mustBeAlone(t, "Decode of Encode", b, func(b outbox.Box) []api.Item {
			x, _ := outbox.Encode(b)
			after, _ := outbox.Decode(x)
			return after.Items
		})
	}
}

// TestAddSharesNothingWithTheEffects: nor are they changed.
func TestAddSharesNothingWithTheEffects(t *testing.T) {
	r := chanceOf(86)
	for i := range 200 {
		l := roomyEffects(r.effects(i % (each + 2)))
		was := behindEffects(l)
		first, _ := outbox.Add(box(3, 32, 97), 4, l)
		second, _ := outbox.Add(box(3, 32, 97), 4, l)
		if overlap(spansOfItems(first.Items), spansOfItems(second.Items), spansOfEffects(l)) {
			t.Fatalf("P8.5: Add of %d effects shares memory", len(l))
		}
		if behindEffects(l) != was {
			t.Fatalf("P8.5: Add of %d effects has changed them", len(l))
		}
		told := tell(first)
		for j, e := range l {
			scribbleValue(e.Arg)
			l[j] = effect("scribbled", text("scribbled"))
		}
		if tell(first) != told {
			t.Fatalf("P8.5: a change of %d effects has changed the box", len(l))
		}
	}
}

// TestArgumentsThatShare: lists that lie twice in what is handed in are parted in what is answered.
func TestArgumentsThatShare(t *testing.T) {
	one := record("a b", list(text("x")), list())
	twice := list(one, one)
	b := outbox.Box{Last: 3, Items: []api.Item{{ID: 32, Effect: effect("a", twice)}, {ID: 33, Effect: effect("b", twice)}, {ID: 34, Effect: effect("c", one)}}}
	l := []api.Effect{effect("a", twice), effect("b", twice), effect("c", one)}
	was := tell(b)
	after, _ := outbox.Add(b, 4, l)
	acked, _, _ := outbox.Ack(b, 33)
	kept, _, _ := outbox.Ack(b, 40)
	told, _ := outbox.Next(b, 9)
	x, _ := outbox.Encode(b)
	read, _ := outbox.Decode(x)
	for _, items := range [][]api.Item{after.Items, acked.Items, kept.Items, told, read.Items} {
		if len(items) < 2 || overlap(spansOfItems(items)) {
			t.Errorf("P8.5: lists of one answer share memory: %v", ids(items))
		}
	}
	if overlap(spansOfItems(after.Items), spansOfItems(acked.Items), spansOfItems(kept.Items), spansOfItems(told), spansOfItems(read.Items), spansOfValue(list(one))) {
		t.Error("P8.5: two answers share memory")
	}
	if tell(b) != was {
		t.Errorf("P8.5: the box has changed to %s", tell(b))
	}
}

// TestItemsGrowApart: what is appended to one answer does not come into another one.
func TestItemsGrowApart(t *testing.T) {
	b := roomy(box(3, 32, 64, 97))
	few, _ := outbox.Next(b, 1)
	_ = append(few, item(65))
	after, _, _ := outbox.Ack(b, 64)
	_ = append(after.Items[:1], item(66))
	if tell(b) != tell(box(3, 32, 64, 97)) {
		t.Errorf("P8.5: the box has changed to %s", tell(b))
	}
}

func TestOctetsShareNothing(t *testing.T) {
	for _, b := range may() {
		x, _ := outbox.Encode(b)
		y, _ := outbox.Encode(b)
		if overlap(spanOf(x), spanOf(y)) {
			t.Fatalf("P8.5: Encode of %s shares memory", short(b))
		}
		was := string(x)
		got, _ := outbox.Decode(x)
		if string(x) != was {
			t.Fatalf("P8.5: Decode of %s has changed the octets", short(b))
		}
		if textsWithin(x, got.Items) {
			t.Fatalf("P8.5: Decode of %s: a text lies in the octets", short(b))
		}
		for i := range x {
			x[i] ^= 0xff
		}
		if tell(got) != tell(b) || string(y) != was {
			t.Fatalf("P8.5: a change of the octets has changed %s", short(b))
		}
	}
}

// TestRefusalsChangeNothing: boxes, effects and octets that are refused stay as they were.
func TestRefusalsChangeNothing(t *testing.T) {
	for _, f := range mayNot() {
		was := slices.Clone(ids(f.box.Items))
		outbox.Check(f.box)
		outbox.Add(f.box, f.box.Last+1, effects(2))
		outbox.Ack(f.box, 64)
		outbox.Next(f.box, 2)
		outbox.Encode(f.box)
		if !slices.Equal(ids(f.box.Items), was) {
			t.Errorf("P8.5: %s: a call that refused it has changed it", f.name)
		}
	}
	full := roomy(box(8, run(32, most)...))
	was := behind(full.Items)
	outbox.Add(full, 9, effects(each))
	outbox.Add(full, 8, effects(1))
	outbox.Ack(full, 31)
	outbox.Next(full, -1)
	if behind(full.Items) != was {
		t.Error("P8.5: a refused call has changed the box")
	}
	for _, w := range slices.Concat(wrongs(), greatWrongs(), twoWrongs()) {
		x := append([]byte(w.octets), "room behind it"...)[:len(w.octets)]
		was := string(x[:cap(x)])
		outbox.Decode(x)
		if string(x[:cap(x)]) != was {
			t.Errorf("P8.5: Decode of %s has changed the octets", w.name)
		}
	}
}

// TestAnswersAreOnceForAll: P3: what is answered hangs on the arguments alone, not on calls ahead.
func TestAnswersAreOnceForAll(t *testing.T) {
	for _, b := range may() {
		first, _, _ := outbox.Ack(b, 32)
		octets, _ := outbox.Encode(b)
		outbox.Add(box(8, run(32, most-each)...), 9, effects(each))
		outbox.Decode([]byte(octetsOf(box(lastSeq, 32, 33))))
		outbox.Ack(box(3, 32), 32)
		second, _, _ := outbox.Ack(b, 32)
		again, _ := outbox.Encode(b)
		if tell(first) != tell(second) || string(octets) != string(again) {
			t.Errorf("P3: what is told of %s is not the same twice", short(b))
		}
	}
}

// TestAnswersAreOneForNilAndEmpty: P1: what is answered does not hang on how an empty list was handed in.
func TestAnswersAreOneForNilAndEmpty(t *testing.T) {
	isNil := func(items []api.Item) bool { return items == nil }
	for _, call := range []func(outbox.Box) []api.Item{
		func(b outbox.Box) []api.Item { after, _ := outbox.Add(b, 2, nil); return after.Items },
		func(b outbox.Box) []api.Item { after, _ := outbox.Add(b, 2, []api.Effect{}); return after.Items },
		func(b outbox.Box) []api.Item { after, _, _ := outbox.Ack(b, 32); return after.Items },
		func(b outbox.Box) []api.Item { told, _ := outbox.Next(b, 3); return told },
	} {
		if isNil(call(outbox.Box{Last: 1})) != isNil(call(outbox.Box{Last: 1, Items: []api.Item{}})) {
			t.Error("P1: nil and empty Items lead to answers that are not one")
		}
	}
}
