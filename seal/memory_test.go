package seal_test

import (
	"slices"
	"testing"
	"unsafe"

	"fanlight/seal"
)

// span is memory, from its first octet to behind its last.
type span struct {
	from, to uintptr
}

// spanOf is the memory of l, to its whole capacity.
func spanOf[T any](l []T) []span {
	if cap(l) == 0 {
		return nil
	}
	var one T
	from := uintptr(unsafe.Pointer(unsafe.SliceData(l)))
	return []span{{from, from + uintptr(cap(l))*unsafe.Sizeof(one)}}
}

// spansOf are the memory of the list of frames and of each one's Data.
func spansOf(frames []seal.Frame) []span {
	all := spanOf(frames)
	for _, f := range frames {
		all = append(all, spanOf(f.Data)...)
	}
	return all
}

// overlap tells whether two of the spans lie in one memory.
func overlap(lists ...[]span) bool {
	all := slices.Concat(lists...)
	slices.SortFunc(all, func(a, b span) int { return int(a.from) - int(b.from) })
	for i := 1; i < len(all); i++ {
		if all[i].from < all[i-1].to {
			return true
		}
	}
	return false
}

// roomy is s with room behind it, into which a careless call could write.
func roomy(s string) []byte {
	return append([]byte(s), "room behind it"...)[:len(s)]
}

// behind tells b and what lies in the room behind it.
func behind(b []byte) string {
	return string(b[:cap(b)])
}

func TestPutSharesNothing(t *testing.T) {
	for _, w := range append(may(), some(100)...) {
		f := seal.Frame{Kind: w.Kind, Data: roomy(string(w.Data))}
		was := behind(f.Data)
		b, _ := seal.Put(f)
		c, _ := seal.Put(f)
		if overlap(spanOf(b), spanOf(c), spanOf(f.Data)) {
			t.Fatalf("P4.5: Put(%s) shares memory", brief(tell(w)))
		}
		if behind(f.Data) != was {
			t.Fatalf("P4.5: Put(%s) has changed its Data", brief(tell(w)))
		}
		told := string(b)
		for i := range f.Data {
			f.Data[i] ^= 0xff
		}
		for i := range c {
			c[i] ^= 0xff
		}
		if string(b) != told {
			t.Fatalf("P4.5: a change of the Data has changed what Put(%s) answered", brief(tell(w)))
		}
	}
}

func TestGetSharesNothing(t *testing.T) {
	for _, w := range append(may(), some(100)...) {
		b := roomy(octetsOf(w))
		was := behind(b)
		f, _, _ := seal.Get(b)
		g, _, _ := seal.Get(b)
		if overlap(spanOf(f.Data), spanOf(g.Data), spanOf(b)) {
			t.Fatalf("P4.5: Get of %s shares memory", brief(tell(w)))
		}
		if behind(b) != was {
			t.Fatalf("P4.5: Get of %s has changed its octets", brief(tell(w)))
		}
		for i := range b {
			b[i] ^= 0xff
		}
		if tell(f) != tell(w) || tell(g) != tell(w) {
			t.Fatalf("P4.5: a change of the octets has changed the frame %s", brief(tell(w)))
		}
	}
}

func TestScanSharesNothing(t *testing.T) {
	for _, w := range [][]seal.Frame{nil, small(), may(), some(100), {frame(1, "a"), frame(1, "a")}} {
		b := roomy(allOctets(w))
		was := behind(b)
		l, _ := seal.Scan(b)
		m, _ := seal.Scan(b)
		if overlap(spansOf(l), spansOf(m), spanOf(b)) {
			t.Fatalf("P4.5: Scan of %s shares memory", brief(tellAll(w)))
		}
		if behind(b) != was {
			t.Fatalf("P4.5: Scan of %s has changed its octets", brief(tellAll(w)))
		}
		for i := range b {
			b[i] ^= 0xff
		}
		if tellAll(l) != tellAll(w) || tellAll(m) != tellAll(w) {
			t.Fatalf("P4.5: a change of the octets has changed the frames %s", brief(tellAll(w)))
		}
	}
}

// TestAnswersStandAlone: one frame's Data, written on or grown, leaves the others as they are.
func TestAnswersStandAlone(t *testing.T) {
	all := some(50)
	for i := range all {
		l, _ := seal.Scan([]byte(allOctets(all)))
		for j := range l[i].Data {
			l[i].Data[j] ^= 0xff
		}
		_ = append(l[i].Data, "grown over whatever stands behind"...)
		for j := range l {
			if j != i && tell(l[j]) != tell(all[j]) {
				t.Fatalf("P4.5: a change of frame %d has changed frame %d", i, j)
			}
		}
	}
}

// TestSumChangesNothing: nor does a refusal.
func TestSumChangesNothing(t *testing.T) {
	for s := range refused() {
		b := roomy(s)
		was := behind(b)
		seal.Sum(b)
		seal.Get(b)
		seal.Scan(b)
		seal.Put(seal.Frame{Kind: 0, Data: b})
		seal.Put(seal.Frame{Kind: 256, Data: b})
		seal.Put(seal.Frame{Kind: 1, Data: b})
		if behind(b) != was {
			t.Errorf("P4.5: %x was changed to %x", brief(was), brief(behind(b)))
		}
	}
}

// TestAnswersAreOnceForAll: P3: what is answered hangs on the arguments alone, not on calls ahead.
func TestAnswersAreOnceForAll(t *testing.T) {
	all := append(may(), some(50)...)
	for _, f := range all {
		first, _ := seal.Put(f)
		seal.Put(frame(9, "between"))
		seal.Get([]byte("between, too"))
		second, _ := seal.Put(f)
		if string(first) != string(second) {
			t.Errorf("P3: Put(%s) is not the same twice", brief(tell(f)))
		}
	}
}
