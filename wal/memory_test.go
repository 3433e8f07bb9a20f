package wal_test

import (
	"slices"
	"testing"
	"unsafe"

	"fanlight/api"
	"fanlight/wal"
)

// span is memory, from its first octet to behind its last.
type span struct {
	from, to uintptr
}

// spanOf is the memory of l, to its whole capacity.
func spanOf[T any](l []T) []span {
	if cap(l) == 0 {
		return nil
	}
	var one T
	from := uintptr(unsafe.Pointer(unsafe.SliceData(l)))
	return []span{{from, from + uintptr(cap(l))*unsafe.Sizeof(one)}}
}

// spansOf are the memory of a list of octets, and of the lists within it.
func spansOf(segs [][]byte) []span {
	spans := spanOf(segs)
	for _, seg := range segs {
		spans = append(spans, spanOf(seg)...)
	}
	return spans
}

func spansOfRecords(l []wal.Record) []span {
	spans := spanOf(l)
	for _, r := range l {
		spans = append(spans, spanOf(r.Data)...)
	}
	return spans
}

// overlap tells whether two of the spans lie in one memory.
func overlap(lists ...[]span) bool {
	spans := slices.Concat(lists...)
	slices.SortFunc(spans, func(a, b span) int { return int(a.from) - int(b.from) })
	for i := 1; i < len(spans); i++ {
		if spans[i].from < spans[i-1].to {
			return true
		}
	}
	return false
}

// room is what stands behind every list that is handed in, where a careless call could write.
const room = "room behind it, in which a record of a few octets would find its place"

func roomy(b []byte) []byte {
	return append(slices.Clone(b), room...)[:len(b)]
}

func roomySegs(segs [][]byte) [][]byte {
	var l [][]byte
	for _, seg := range segs {
		l = append(l, roomy(seg))
	}
	return append(l, []byte(room), []byte(room))[:len(segs)]
}

func roomyLog(l wal.Log) wal.Log {
	return wal.Log{Segs: roomySegs(l.Segs), Next: l.Next}
}

// behind tells segs and what lies in the rooms behind its lists.
func behind(segs [][]byte) string {
	var whole [][]byte
	for _, seg := range segs[:cap(segs)] {
		whole = append(whole, seg[:cap(seg)])
	}
	return tellSegs(whole)
}

// scribble turns every octet of segs, and the list, into something else.
func scribble(segs [][]byte) {
	for i, seg := range segs {
		invert(seg)
		segs[i] = nil
	}
}

func invert(b []byte) {
	for i := range b {
		b[i] ^= 0xff
	}
}

func scribbleRecords(l []wal.Record) {
	for i, r := range l {
		invert(r.Data)
		l[i] = wal.Record{Seq: -7}
	}
}

// mustBeAlone holds that two logs that a call answers share nothing with each other, nor with the arguments, that these have stayed, and that a change of them does not come through.
func mustBeAlone(t *testing.T, name string, given wal.Log, d []byte, call func(wal.Log, []byte) wal.Log) {
	t.Helper()
	l, d := roomyLog(given), roomy(d)
	was, wasData := behind(l.Segs), string(d[:cap(d)])
	a, b := call(l, d), call(l, d)
	if overlap(spansOf(a.Segs), spansOf(b.Segs), spansOf(l.Segs), spanOf(d)) {
		t.Fatalf("P6.5: %s of %s shares memory", name, short(given))
	}
	if behind(l.Segs) != was || string(d[:cap(d)]) != wasData || l.Next != given.Next {
		t.Fatalf("P6.5: %s of %s has changed its arguments", name, short(given))
	}
	told := tell(a)
	scribble(l.Segs)
	invert(d)
	scribble(b.Segs)
	if tell(a) != told {
		t.Fatalf("P6.5: %s of %s: a change elsewhere has changed the answer", name, short(given))
	}
}

func TestLogsShareNothing(t *testing.T) {
	for _, p := range plans() {
		for _, n := range []int{0, 9, longest, longest + 1} {
			mustBeAlone(t, "Append", p.log(), make([]byte, n), func(l wal.Log, d []byte) wal.Log {
				after, _, _ := wal.Append(l, d)
				return after
			})
		}
		for _, seq := range []int{0, p.first, (p.first + p.next()) / 2, p.next()} {
			mustBeAlone(t, "Drop", p.log(), nil, func(l wal.Log, _ []byte) wal.Log {
				after, _ := wal.Drop(l, seq)
				return after
			})
		}
		for _, segs := range [][][]byte{p.log().Segs, octets(padded(p.log())...)} {
			mustBeAlone(t, "Recover", wal.Log{Segs: segs}, nil, func(l wal.Log, _ []byte) wal.Log {
				after, _ := wal.Recover(l.Segs, p.first)
				return after
			})
		}
	}
}

// mustHoldRecords holds the same of two lists of records.
func mustHoldRecords(t *testing.T, name string, given [][]byte, call func([][]byte) []wal.Record) {
	t.Helper()
	segs := roomySegs(given)
	was := behind(segs)
	a, b := call(segs), call(segs)
	if overlap(spansOfRecords(a), spansOfRecords(b), spansOf(segs)) {
		t.Fatalf("P6.5: %s of %d segments shares memory", name, len(segs))
	}
	if behind(segs) != was {
		t.Fatalf("P6.5: %s of %d segments has changed them", name, len(segs))
	}
	told := tellRecords(a)
	scribble(segs)
	scribbleRecords(b)
	if tellRecords(a) != told {
		t.Fatalf("P6.5: %s of %d segments: a change elsewhere has changed the records", name, len(segs))
	}
}

func TestRecordsShareNothing(t *testing.T) {
	for _, p := range plans() {
		mustHoldRecords(t, "Records", p.log().Segs, func(segs [][]byte) []wal.Record {
			all, _ := wal.Records(wal.Log{Segs: segs, Next: p.next()})
			return all
		})
		mustHoldRecords(t, "Scan", p.log().Segs, func(segs [][]byte) []wal.Record {
			if len(segs) == 0 {
				return nil
			}
			all, _ := wal.Scan(segs[0], p.first)
			return all
		})
	}
}

// TestRecordsGrowApart: what is appended to one record's octets does not come into another's.
func TestRecordsGrowApart(t *testing.T) {
	p := planOf(1, []int{3, 0, 5}, []int{0, 7})
	all, _ := wal.Records(p.log())
	for _, r := range all {
		_ = append(r.Data, "some octets more than it has"...)
	}
	if tellRecords(all) != tellRecords(p.records()) {
		t.Error("P6.5: records of one answer share memory")
	}
}

// TestArgumentsThatShare: segments and octets that lie in one memory count as what they hold, and the answer parts them.
func TestArgumentsThatShare(t *testing.T) {
	all := []byte(record(1, "a") + record(2, "b") + record(3, "c"))
	l := wal.Log{Segs: [][]byte{all[:17], all[17:34], all[34:]}, Next: 4}
	want := string(all)
	after, place, err := wal.Append(l, all[:40])
	if err != api.OK || place != 2 || overlap(spansOf(after.Segs), spanOf(all)) {
		t.Errorf("P6.5: Append to what shares memory: %s, %d, %v", short(after), place, err)
	}
	after, place, err = wal.Append(wal.Log{Segs: [][]byte{all[:17]}, Next: 2}, all[17:30])
	if err != api.OK || place != 0 || string(all) != want || tell(after) != tell(wal.Log{Segs: octets(want[:17] + record(2, want[17:30])), Next: 3}) {
		t.Errorf("P6.5: Append of what lies behind the last segment: %s, %d, %v", short(after), place, err)
	}
	after, err = wal.Drop(l, 1)
	if err != api.OK || string(all) != want || overlap(spansOf(after.Segs), spanOf(all)) {
		t.Errorf("P6.5: Drop of what shares memory: %s, %v", short(after), err)
	}
	after, err = wal.Recover([][]byte{all[:17:17], all[17:], all}, 1)
	if err != api.OK || string(all) != want || overlap(spansOf(after.Segs), spanOf(all)) {
		t.Errorf("P6.5: Recover of what shares memory: %s, %v", short(after), err)
	}
}

// TestRefusalsChangeNothing: nor do logs that may not be.
func TestRefusalsChangeNothing(t *testing.T) {
	for cause, given := range mayNot() {
		l := roomyLog(given)
		was := behind(l.Segs)
		wal.Check(l)
		wal.Append(l, []byte("x"))
		wal.Records(l)
		wal.Drop(l, 1)
		wal.Recover(l.Segs, 1)
		for _, seg := range l.Segs {
			wal.Scan(seg, 1)
		}
		if behind(l.Segs) != was {
			t.Errorf("P6.5: %s: a call that refused it has changed it", cause)
		}
	}
}

// TestAnswersAreOnceForAll: P3: what is answered hangs on the arguments alone, not on calls ahead.
func TestAnswersAreOnceForAll(t *testing.T) {
	for _, p := range plans() {
		first, _, _ := wal.Append(p.log(), []byte("x"))
		wal.Append(p.log(), []byte("something else"))
		wal.Drop(p.log(), p.next())
		second, _, _ := wal.Append(p.log(), []byte("x"))
		if tell(first) != tell(second) {
			t.Errorf("P3: Append to %s is not the same twice", short(p.log()))
		}
	}
}
