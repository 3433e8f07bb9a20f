package snap_test

import (
	"slices"
	"testing"
	"unsafe"

	"fanlight/snap"
)

// overlap tells whether two of the lists lie in one memory, each to its whole capacity.
func overlap(lists ...[]byte) bool {
	type span struct{ from, to uintptr }
	var spans []span
	for _, l := range lists {
		if cap(l) > 0 {
			from := uintptr(unsafe.Pointer(unsafe.SliceData(l)))
			spans = append(spans, span{from, from + uintptr(cap(l))})
		}
	}
	slices.SortFunc(spans, func(a, b span) int { return int(a.from) - int(b.from) })
	for i := 1; i < len(spans); i++ {
		if spans[i].from < spans[i-1].to {
			return true
		}
	}
	return false
}

// roomy is s with room behind it, into which a careless call could write.
func roomy(s string) []byte {
	return append([]byte(s), "room behind it"...)[:len(s)]
}

// behind tells b and what lies in the room behind it.
func behind(b []byte) string {
	return string(b[:cap(b)])
}

// invert turns every octet of b, and of the room behind it, into another one.
func invert(b []byte) {
	b = b[:cap(b)]
	for i := range b {
		b[i] ^= 0xff
	}
}

func TestEncodeSharesNothing(t *testing.T) {
	for _, want := range may() {
		s := snap.Snap{Epoch: want.Epoch, Seq: want.Seq, Data: roomy(string(want.Data))}
		was := behind(s.Data)
		a, _ := snap.Encode(s)
		b, _ := snap.Encode(s)
		if overlap(a, b, s.Data) {
			t.Fatalf("P7.4: Encode(%s) shares memory", short(want))
		}
		if behind(s.Data) != was {
			t.Fatalf("P7.4: Encode(%s) has changed its Data", short(want))
		}
		invert(s.Data)
		invert(b)
		if string(a) != slotOf(want) {
			t.Fatalf("P7.4: a change of the Data has changed what Encode(%s) answered", short(want))
		}
	}
}

func TestDecodeSharesNothing(t *testing.T) {
	for _, want := range may() {
		slot := roomy(slotOf(want))
		was := behind(slot)
		a, _ := snap.Decode(slot)
		b, _ := snap.Decode(slot)
		if overlap(a.Data, b.Data, slot) {
			t.Fatalf("P7.4: Decode of %s shares memory", short(want))
		}
		if behind(slot) != was {
			t.Fatalf("P7.4: Decode of %s has changed the slot", short(want))
		}
		invert(slot)
		invert(b.Data)
		if tell(a) != tell(want) {
			t.Fatalf("P7.4: a change of the slot has changed the snapshot %s", short(want))
		}
	}
}

func TestNewestSharesNothing(t *testing.T) {
	older := snapOf(0, 3, 40)
	for _, newer := range may() {
		for _, turned := range []bool{false, true} {
			first, second := roomy(slotOf(older)), roomy(slotOf(newer))
			if turned {
				first, second = second, first
			}
			wasFirst, wasSecond := behind(first), behind(second)
			want, _, _ := newest(string(first), string(second))
			a, _, _ := snap.Newest(first, second)
			b, _, _ := snap.Newest(first, second)
			if overlap(a.Data, b.Data, first, second) {
				t.Fatalf("P7.4: Newest of %s and another shares memory", short(newer))
			}
			if behind(first) != wasFirst || behind(second) != wasSecond {
				t.Fatalf("P7.4: Newest of %s and another has changed a slot", short(newer))
			}
			invert(first)
			invert(second)
			invert(b.Data)
			if tell(a) != tell(want) {
				t.Fatalf("P7.4: a change of the slots has changed the snapshot %s", short(want))
			}
		}
	}
}

// TestRefusalsChangeNothing: what is refused stays as it was, too.
func TestRefusalsChangeNothing(t *testing.T) {
	for _, f := range slices.Concat(faults(), greatFaults(), twoFaults()) {
		b := roomy(f.slot)
		was := behind(b)
		snap.Decode(b)
		snap.Newest(b, nil)
		snap.Newest(nil, b)
		snap.Newest(b, b)
		snap.Check(snap.Snap{Epoch: -1, Data: b})
		snap.Encode(snap.Snap{Seq: -1, Data: b})
		snap.Check(snap.Snap{Data: b})
		snap.Encode(snap.Snap{Data: b})
		if behind(b) != was {
			t.Errorf("P7.4: %s was changed", f.name)
		}
	}
}

// TestAnswersAreOnceForAll: P3: what is answered hangs on the arguments alone, not on calls ahead.
func TestAnswersAreOnceForAll(t *testing.T) {
	for _, s := range may() {
		first, _ := snap.Encode(s)
		snap.Encode(snapOf(9, 9, longest))
		snap.Decode([]byte(slot(last+1, 2, data(3, longest+1))))
		snap.Newest([]byte(slot(8, 8, data(8, longest))), nil)
		second, _ := snap.Encode(s)
		again, _ := snap.Decode(first)
		if string(first) != string(second) || tell(again) != tell(s) {
			t.Errorf("P3: Encode(%s) is not the same twice", short(s))
		}
	}
}
