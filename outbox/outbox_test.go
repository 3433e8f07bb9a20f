package outbox_test

import (
	"math"
	"slices"
	"testing"

	"fanlight/api"
	"fanlight/outbox"
)

// mustAdd asks for what Add tells; name is for a person.
func mustAdd(t *testing.T, name string, b outbox.Box, seq int, l []api.Effect, want outbox.Box, wantErr api.Errno) {
	t.Helper()
	got, err := outbox.Add(b, seq, l)
	if err != wantErr || tell(got) != tell(want) {
		t.Fatalf("P8.1: Add of %s (event %d, %d effects): %s, %v, want %s, %v", name, seq, len(l), short(got), err, short(want), wantErr)
	}
}

func mustAck(t *testing.T, b outbox.Box, id int, want outbox.Box, wantWas bool, wantErr api.Errno) {
	t.Helper()
	got, was, err := outbox.Ack(b, id)
	if err != wantErr || was != wantWas || tell(got) != tell(want) {
		t.Fatalf("P8.1: Ack of %d in %s: %s, %v, %v, want %s, %v, %v", id, short(b), short(got), was, err, short(want), wantWas, wantErr)
	}
}

func mustTell(t *testing.T, b outbox.Box, n int, want []api.Item, wantErr api.Errno) {
	t.Helper()
	got, err := outbox.Next(b, n)
	if err != wantErr || tellItems(got) != tellItems(want) {
		t.Fatalf("P8.1: Next of %d in %s: %v, %v, want %v, %v", n, short(b), ids(got), err, ids(want), wantErr)
	}
}

func TestNew(t *testing.T) {
	b := outbox.New()
	if !isZero(b) || outbox.Check(b) != api.OK {
		t.Errorf("P8.1: New: %s, %v", short(b), outbox.Check(b))
	}
	mustTell(t, b, 9, nil, api.OK)
}

func TestCheckTakes(t *testing.T) {
	for _, b := range may() {
		if err := outbox.Check(b); err != api.OK || !mayBe(b) {
			t.Errorf("P8.1: Check of %s: %v", short(b), err)
		}
	}
}

// TestCheckRefuses: all calls but Decode tell Check's error first, whatever else is wrong.
func TestCheckRefuses(t *testing.T) {
	for _, f := range mayNot() {
		if mayBe(f.box) {
			t.Errorf("%s: may be by the chapter's words", f.name)
		}
		if err := outbox.Check(f.box); err != api.ErrState {
			t.Errorf("P8.1: Check of %s: %v", f.name, err)
		}
		for _, seq := range []int{-1, f.box.Last, f.box.Last + 1, lastSeq, lastSeq + 1} {
			for _, l := range [][]api.Effect{nil, effects(1), effects(each + 1), {{}}, {effect("x", api.Value{Kind: 7})}, effects(each)} {
				mustAdd(t, f.name, f.box, seq, l, outbox.Box{}, api.ErrState)
			}
		}
		for _, id := range []int{-1, 31, 32, 64, 97, 128, math.MaxInt} {
			mustAck(t, f.box, id, outbox.Box{}, false, api.ErrState)
		}
		for _, n := range []int{-1, 0, 1, 300} {
			mustTell(t, f.box, n, nil, api.ErrState)
		}
		if x, err := outbox.Encode(f.box); err != api.ErrState || len(x) != 0 {
			t.Errorf("P8.2: Encode of %s: %d octets, %v", f.name, len(x), err)
		}
	}
}

// TestExample: example 1 of the chapter.
func TestExample(t *testing.T) {
	b, err := outbox.Add(outbox.New(), 3, effects(2))
	if err != api.OK || b.Last != 3 || !slices.Equal(ids(b.Items), []int{96, 97}) {
		t.Errorf("P8.1: Add 3 with two effects: %s, %v", short(b), err)
	}
}

// added is b with an event's effects, by the chapter's words alone.
func added(b outbox.Box, seq int, l []api.Effect) outbox.Box {
	after := outbox.Box{Last: seq, Items: slices.Clone(b.Items)}
	for i, e := range l {
		after.Items = append(after.Items, api.Item{ID: 32*seq + i, Effect: e})
	}
	return after
}

func TestAdd(t *testing.T) {
	for _, b := range may() {
		for _, seq := range []int{b.Last + 1, b.Last + 2, b.Last + 1000, lastSeq - 1, lastSeq} {
			for _, n := range []int{0, 1, 2, each - 1, each} {
				if seq > b.Last && seq <= lastSeq && len(b.Items)+n <= most {
					mustAdd(t, short(b), b, seq, effects(n), added(b, seq, effects(n)), api.OK)
				}
			}
		}
	}
	for _, arg := range args() {
		for _, name := range goodNames() {
			l := []api.Effect{effect(name, arg), effect("b", api.Value{}), effect(name, arg)}
			mustAdd(t, "names and values", box(2, 64), 3, l, added(box(2, 64), 3, l), api.OK)
		}
	}
	mustAdd(t, "an empty list", box(0), 1, []api.Effect{}, box(1), api.OK)
	mustAdd(t, "nil", outbox.Box{Items: []api.Item{}}, 1, nil, box(1), api.OK)
}

func TestAddOutOfOrder(t *testing.T) {
	for _, b := range may() {
		for _, seq := range []int{b.Last, b.Last - 1, 0, -1, -b.Last, -lastSeq, math.MinInt + 1, math.MinInt} {
			if seq > b.Last {
				continue
			}
			// Whatever else is wrong, and where nothing else is.
			for _, l := range [][]api.Effect{nil, effects(1), effects(each + 1), {{}}, effects(each)} {
				mustAdd(t, short(b), b, seq, l, outbox.Box{}, api.ErrOrder)
			}
		}
	}
}

func TestAddOutOfRange(t *testing.T) {
	for _, b := range may() {
		for _, seq := range []int{lastSeq + 1, lastSeq + 2, 2 * lastSeq, 1 << 57, 1 << 58, 1<<58 + 5, 1 << 59, 1 << 62, math.MaxInt} {
			for _, l := range [][]api.Effect{nil, effects(1), effects(each + 1), {{}}, effects(each)} {
				mustAdd(t, short(b), b, seq, l, outbox.Box{}, api.ErrRange)
			}
		}
	}
}

// TestAddTooMany: more than 32, whatever they are.
func TestAddTooMany(t *testing.T) {
	full := box(8, run(32, most)...)
	for _, b := range []outbox.Box{box(0), box(3, 32, 97), full} {
		for _, n := range []int{each + 1, each + 2, 64, most, most + 1, 5000} {
			l := effects(n)
			mustAdd(t, "too many", b, 9, l, outbox.Box{}, api.ErrCount)
			l[0].Name = ""
			mustAdd(t, "too many, the first without a Name", b, 9, l, outbox.Box{}, api.ErrCount)
			mustAdd(t, "too many, none of which may be", b, 9, make([]api.Effect, n), outbox.Box{}, api.ErrCount)
			l = effects(n)
			l[0].Arg = deep(9, api.Value{})
			mustAdd(t, "too many, the first nine deep", b, 9, l, outbox.Box{}, api.ErrCount)
		}
	}
}

// TestAddOfEffectsThatMayNotBe: at the first, the last and any place, with room or without.
func TestAddOfEffectsThatMayNotBe(t *testing.T) {
	for _, b := range []outbox.Box{box(0), box(8, run(32, most-1)...), box(8, run(32, most)...)} {
		for _, at := range []int{0, 1, each / 2, each - 1} {
			for _, name := range badNames() {
				l := effects(each)
				l[at].Name = name
				mustAdd(t, "a Name", b, 9, l, outbox.Box{}, api.ErrName)
				mustAdd(t, "a Name, the last", b, 9, l[:at+1], outbox.Box{}, api.ErrName)
				for _, bad := range badArgs() {
					l[at].Arg = bad.arg
					mustAdd(t, "a Name and "+bad.name, b, 9, l, outbox.Box{}, api.ErrName)
				}
			}
			for _, bad := range badArgs() {
				l := effects(each)
				l[at].Arg = bad.arg
				mustAdd(t, bad.name, b, 9, l, outbox.Box{}, bad.err)
				mustAdd(t, bad.name+", the last", b, 9, l[:at+1], outbox.Box{}, bad.err)
			}
		}
	}
}

// TestAddEffectByEffect: of two effects that may not be the first tells its error.
func TestAddEffectByEffect(t *testing.T) {
	for _, bad := range badArgs() {
		for _, other := range badArgs() {
			l := effects(4)
			l[1].Arg, l[3].Arg = bad.arg, other.arg
			mustAdd(t, bad.name+" ahead of "+other.name, box(3, 32), 4, l, outbox.Box{}, bad.err)
		}
		for _, name := range badNames() {
			l := effects(4)
			l[0].Arg, l[1].Name = bad.arg, name
			mustAdd(t, bad.name+" ahead of a Name", box(3, 32), 4, l, outbox.Box{}, bad.err)
			l = effects(4)
			l[2].Name, l[3].Arg = name, bad.arg
			mustAdd(t, "a Name ahead of "+bad.name, box(3, 32), 4, l, outbox.Box{}, api.ErrName)
		}
	}
}

// TestAddToAFullBox: 256 wait, but not 257.
func TestAddToAFullBox(t *testing.T) {
	for n := 0; n <= each; n++ {
		for waiting := most - each - 1; waiting <= most; waiting++ {
			b := box(8, run(32, waiting)...)
			if waiting+n > most {
				mustAdd(t, short(b), b, 9, effects(n), outbox.Box{}, api.ErrFull)
			} else {
				mustAdd(t, short(b), b, 9, effects(n), added(b, 9, effects(n)), api.OK)
			}
		}
	}
}

func TestAck(t *testing.T) {
	for _, b := range may() {
		for i, it := range b.Items {
			if i > 5 && i < len(b.Items)-5 && i != len(b.Items)/2 {
				continue
			}
			after := outbox.Box{Last: b.Last, Items: slices.Delete(slices.Clone(b.Items), i, i+1)}
			mustAck(t, b, it.ID, after, true, api.OK)
			mustAck(t, after, it.ID, after, false, api.OK)
		}
	}
}

// TestAckOfOneThatDoesNotWait: the box stays, whether there ever was such an effect or not.
func TestAckOfOneThatDoesNotWait(t *testing.T) {
	for _, b := range may() {
		waits := ids(b.Items)
		for _, id := range []int{32, 33, 63, 64, 95, 96, 97, 98, 32 * b.Last, 32*b.Last + 15, 32*b.Last + 31} {
			if id >= 32 && id/32 <= b.Last && !slices.Contains(waits, id) {
				mustAck(t, b, id, b, false, api.OK)
			}
		}
		for _, id := range waits {
			for _, near := range []int{id - 1, id + 1} {
				if near >= 32 && near/32 <= b.Last && !slices.Contains(waits, near) {
					mustAck(t, b, near, b, false, api.OK)
				}
			}
		}
	}
	mustAck(t, outbox.Box{Last: 1, Items: []api.Item{}}, 32, box(1), false, api.OK)
}

func TestAckOutOfRange(t *testing.T) {
	for _, b := range may() {
		end := 32 * (b.Last + 1)
		for _, id := range []int{31, 30, 1, 0, -1, -31, -32, -33, -97, math.MinInt, end, end + 1, end + 32, 1 << 46, 1 << 62, math.MaxInt} {
			mustAck(t, b, id, outbox.Box{}, false, api.ErrRange)
		}
	}
}

func TestNext(t *testing.T) {
	for _, b := range may() {
		all := len(b.Items)
		for _, n := range []int{0, 1, 2, all / 2, all - 1, all, all + 1, all + 2, most, most + 1, 1 << 31, 1 << 32, 1 << 62, math.MaxInt} {
			if n >= 0 {
				mustTell(t, b, n, b.Items[:min(n, all)], api.OK)
			}
		}
		for _, n := range []int{-1, -2, -all, -most, -1 << 32, -1 << 62, math.MinInt} {
			if n < 0 {
				mustTell(t, b, n, nil, api.ErrRange)
			}
		}
	}
}
