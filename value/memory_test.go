package value_test

import (
	"slices"
	"testing"
	"unsafe"

	"fanlight/api"
	"fanlight/value"
)

// span is the memory of a list, from its first octet to behind its capacity's last.
type span struct {
	from, to uintptr
}

// spans are the memory of all lists of v, of each to its whole capacity.
func spans(v api.Value) []span {
	var all []span
	if n := cap(v.Keys); n > 0 {
		from := uintptr(unsafe.Pointer(unsafe.SliceData(v.Keys)))
		all = append(all, span{from, from + uintptr(n)*unsafe.Sizeof("")})
	}
	if n := cap(v.Items); n > 0 {
		from := uintptr(unsafe.Pointer(unsafe.SliceData(v.Items)))
		all = append(all, span{from, from + uintptr(n)*unsafe.Sizeof(api.Value{})})
	}
	for _, item := range v.Items {
		all = append(all, spans(item)...)
	}
	return all
}

// share tells whether two lists of the values lie in one memory.
func share(values ...api.Value) bool {
	var all []span
	for _, v := range values {
		all = append(all, spans(v)...)
	}
	slices.SortFunc(all, func(a, b span) int { return int(a.from) - int(b.from) })
	for i := 1; i < len(all); i++ {
		if all[i].from < all[i-1].to {
			return true
		}
	}
	return false
}

// roomy is v with room behind the last of each list, into which a careless call could write.
func roomy(v api.Value) api.Value {
	if v.Keys != nil {
		v.Keys = append(make([]string, 0, len(v.Keys)+4), v.Keys...)
	}
	if v.Items != nil {
		items := make([]api.Value, 0, len(v.Items)+4)
		for _, item := range v.Items {
			items = append(items, roomy(item))
		}
		v.Items = items
	}
	return v
}

// behind tells v and what lies behind the last of its lists.
func behind(v api.Value) string {
	v.Keys = v.Keys[:cap(v.Keys)]
	v.Items = slices.Clone(v.Items[:cap(v.Items)])
	s := ""
	for _, item := range v.Items {
		s += behind(item)
	}
	return tell(v) + s
}

func TestGetSharesNothing(t *testing.T) {
	for _, w := range append(append(may(), some(100)...), sample()) {
		v := roomy(w)
		was := behind(v)
		for _, p := range paths(w, nil) {
			walked := slices.Clone(p)
			x, _ := value.Get(v, p)
			y, _ := value.Get(v, p)
			if share(v, x, y) {
				t.Fatalf("P2.5: Get(%s, %v) shares memory", tell(v), p)
			}
			if behind(v) != was || !slices.Equal(p, walked) {
				t.Fatalf("P2.5: Get(%s, %v) has changed what was handed in", was, walked)
			}
		}
	}
}

func TestSetSharesNothing(t *testing.T) {
	x := roomy(record("a b", list(text("x")), record("c", nothing())))
	xWas := behind(x)
	for _, w := range append(some(100), sample()) {
		v := roomy(w)
		was := behind(v)
		ways := paths(w, nil)
		for _, p := range paths(w, nil) {
			ways = append(ways, append(p[:len(p):len(p)], keyed("ab")), append(p[:len(p):len(p)], at(0)), append(p[:len(p):len(p)], at(1)), append(p[:len(p):len(p)], at(9)))
		}
		for _, p := range ways {
			walked := slices.Clone(p)
			y, _ := value.Set(v, p, x)
			z, _ := value.Set(v, p, x)
			if share(v, x, y, z) {
				t.Fatalf("P2.5: Set(%s, %v) shares memory", tell(v), p)
			}
			if behind(v) != was || behind(x) != xWas || !slices.Equal(p, walked) {
				t.Fatalf("P2.5: Set(%s, %v) has changed what was handed in", was, walked)
			}
		}
	}
}

// TestSetOfAValueInItself: v and x are one, and their lists lie twice in one value.
func TestSetOfAValueInItself(t *testing.T) {
	inner := list(text("a"), text("b"))
	v := roomy(list(inner, inner))
	v.Items[0], v.Items[1] = inner, inner
	y, err := value.Set(v, path(0, 0), v)
	want := list(list(list(inner, inner), text("b")), inner)
	if tell(y) != tell(want) || err != api.OK {
		t.Fatalf("P2.2: Set of a value in itself: %s, %v, want %s", tell(y), err, tell(want))
	}
	if share(y) || share(y, inner) {
		t.Error("P2.5: two lists of one answer share memory")
	}
	if x, _ := value.Get(v, nil); share(x) || share(x, inner) {
		t.Error("P2.5: two lists of Get's answer share memory")
	}
	y.Items[0].Items[0].Items[0].Items[0] = text("changed")
	y.Items[1].Items[1] = text("changed")
	if tell(v) != tell(list(list(text("a"), text("b")), list(text("a"), text("b")))) {
		t.Errorf("P2.5: a change of the answer has changed what was handed in: %s", tell(v))
	}
}

// TestAskingChangesNothing: Check, Same, Compare and Size leave what they are given.
func TestAskingChangesNothing(t *testing.T) {
	values := append(may(), some(60)...)
	for _, c := range mayNot() {
		if c.v.Items == nil || tellable(c.v, 0) {
			values = append(values, c.v)
		}
	}
	for _, w := range values {
		v := roomy(w)
		was := behind(v)
		value.Check(v)
		value.Same(v, v)
		value.Compare(v, list())
		value.Compare(list(), v)
		value.Size(v)
		if behind(v) != was {
			t.Errorf("P2.5: asking has changed %s to %s", was, behind(v))
		}
	}
}

// tellable tells whether v ends.
func tellable(v api.Value, depth int) bool {
	for _, item := range v.Items {
		if depth > 30 || !tellable(item, depth+1) {
			return false
		}
	}
	return true
}

// TestAnswersAreOneForNilAndEmpty: P1, P3: what is answered does not hang on how an empty list was handed in.
func TestAnswersAreOneForNilAndEmpty(t *testing.T) {
	full := record("a", api.Value{Kind: kindList, Keys: []string{}, Items: []api.Value{}})
	bare := record("a", api.Value{Kind: kindList})
	for _, p := range [][]api.Step{nil, path("a")} {
		x, _ := value.Get(full, p)
		y, _ := value.Get(bare, p)
		if (x.Items == nil) != (y.Items == nil) || (x.Keys == nil) != (y.Keys == nil) {
			t.Errorf("P1, P3: Get by %v tells nil and empty lists apart", p)
		}
	}
}
