package wal_test

import (
	"math"
	"strings"
	"testing"

	"fanlight/api"
	"fanlight/wal"
)

func TestCheck(t *testing.T) {
	for _, p := range plans() {
		if err := wal.Check(p.log()); err != api.OK {
			t.Errorf("P6.1: Check(%s): %v", short(p.log()), err)
		}
	}
	for cause, l := range mayNot() {
		if err := wal.Check(l); err != api.ErrState {
			t.Errorf("P6.1: Check, %s: %v", cause, err)
		}
	}
}

// TestCheckFindsOneFault: a bit that is turned anywhere makes a log that may not be.
func TestCheckFindsOneFault(t *testing.T) {
	for i := range 3 {
		l := planOf(5, []int{3, 0}, []int{9}, []int{1, 1, 1}).log()
		for at := range l.Segs[i] {
			for bit := range 8 {
				l.Segs[i][at] ^= 1 << bit
				if err := wal.Check(l); err != api.ErrState {
					t.Errorf("P6.1: Check, segment %d, octet %d, bit %d turned: %v", i, at, bit, err)
				}
				l.Segs[i][at] ^= 1 << bit
			}
		}
	}
}

// TestOthersCheckFirst: Check's error goes ahead of every other one, and beside it nothing is answered.
func TestOthersCheckFirst(t *testing.T) {
	for cause, l := range mayNot() {
		for _, n := range []int{0, 1, longest, longest + 1, 1 << 20} {
			if after, place, err := wal.Append(l, make([]byte, n)); err != api.ErrState || place != 0 || !isZero(after) {
				t.Errorf("P6.1: Append of %d octets, %s: %s, %d, %v", n, cause, short(after), place, err)
			}
		}
		if all, err := wal.Records(l); err != api.ErrState || len(all) != 0 {
			t.Errorf("P6.1: Records, %s: %s, %v", cause, shortRecords(all), err)
		}
		for _, seq := range []int{0, 1, 2, lastNext, math.MaxInt, math.MinInt} {
			if after, err := wal.Drop(l, seq); err != api.ErrState || !isZero(after) {
				t.Errorf("P6.2: Drop(%d), %s: %s, %v", seq, cause, short(after), err)
			}
		}
	}
}

// mustAppend holds what Append answers against the log and the place that are wanted.
func mustAppend(t *testing.T, l wal.Log, d string, want wal.Log, wantPlace int) {
	t.Helper()
	after, place, err := wal.Append(l, []byte(d))
	if err != api.OK || place != wantPlace || tell(after) != tell(want) {
		t.Fatalf("P6.1: Append(%s, %d octets): %s, place %d, %v, want %s, place %d", short(l), len(d), short(after), place, err, short(want), wantPlace)
	}
}

func mustNotAppend(t *testing.T, l wal.Log, n int, want api.Errno) {
	t.Helper()
	if after, place, err := wal.Append(l, make([]byte, n)); err != want || place != 0 || !isZero(after) {
		t.Errorf("P6.1: Append(%s, %d octets): %s, place %d, %v, want %v", short(l), n, short(after), place, err, want)
	}
}

// TestAppendOctets: a first record, octet by octet but for its sum.
func TestAppendOctets(t *testing.T) {
	l, place, err := wal.Append(wal.Log{Next: 0x1020304}, []byte("abc"))
	if err != api.OK || place != 0 || l.Next != 0x1020305 || len(l.Segs) != 1 {
		t.Fatalf("P6.1: Append to nothing: %s, %d, %v", short(l), place, err)
	}
	if got := string(l.Segs[0]); len(got) != 19 || !strings.HasPrefix(got, "\x02\x00\x00\x0b\x00\x00\x00\x00\x01\x02\x03\x04abc") {
		t.Errorf("P6.1: Append: its octets are %x", got)
	}
}

func TestAppendWhereItStands(t *testing.T) {
	for _, c := range []struct {
		was    [][]int
		length int
		want   [][]int
		place  int
	}{
		{nil, 0, [][]int{{0}}, 0},
		{nil, 3, [][]int{{3}}, 0},
		{nil, longest, [][]int{{longest}}, 0},
		{[][]int{{3}}, 4, [][]int{{3, 4}}, 0},
		{[][]int{{300}}, 300, [][]int{{300}, {300}}, 1},
		{[][]int{{longest}}, 47, [][]int{{longest, 47}}, 0},
		{[][]int{{longest}}, 48, [][]int{{longest, 48}}, 0},
		{[][]int{{longest}}, 49, [][]int{{longest}, {49}}, 1},
		{[][]int{{longest}}, longest, [][]int{{longest}, {longest}}, 1},
		{[][]int{{48}}, longest, [][]int{{48, longest}}, 0},
		{[][]int{{49}}, longest, [][]int{{49}, {longest}}, 1},
		{[][]int{{longest, 32}}, 0, [][]int{{longest, 32, 0}}, 0},
		{[][]int{{longest, 33}}, 0, [][]int{{longest, 33}, {0}}, 1},
		{[][]int{{longest, 48}}, 0, [][]int{{longest, 48}, {0}}, 1},
		{[][]int{tiny()}, 0, [][]int{tiny(), {0}}, 1},
		{[][]int{tiny()[1:]}, 0, [][]int{tiny()}, 0},
		{[][]int{tiny()[1:]}, 1, [][]int{tiny()[1:], {1}}, 1},
		// Room in a segment ahead of the last is not taken.
		{[][]int{{1}, {longest}}, 49, [][]int{{1}, {longest}, {49}}, 2},
		{[][]int{{1}, {longest}}, 48, [][]int{{1}, {longest, 48}}, 1},
		{[][]int{{0}, {0}, {0}}, 0, [][]int{{0}, {0}, {0, 0}}, 2},
	} {
		for _, first := range []int{1, 2, 255, 1 << 32, lastNext - 40} {
			was, want := planOf(first, c.was...), planOf(first, c.want...)
			mustAppend(t, was.log(), data(was.next(), c.length), want.log(), c.place)
		}
	}
}

func TestAppendTooLong(t *testing.T) {
	for _, p := range []plan{planOf(1), planOf(1, []int{0}), planOf(1, tiny())} {
		for _, n := range []int{longest + 1, longest + 2, size, api.MaxData, api.MaxData + 1, 1 << 20} {
			mustNotAppend(t, p.log(), n, api.ErrLong)
		}
		want, place := p.with(data(p.next(), longest))
		mustAppend(t, p.log(), data(p.next(), longest), want.log(), place)
	}
}

func TestAppendFull(t *testing.T) {
	full := planOf(1, rows(most, longest)...)
	mustNotAppend(t, full.log(), 49, api.ErrFull)
	mustNotAppend(t, full.log(), longest, api.ErrFull)
	want, place := full.with(data(full.next(), 48))
	mustAppend(t, full.log(), data(full.next(), 48), want.log(), place)
	if place != most-1 {
		t.Errorf("P6.1: the last place is %d", place)
	}
	mustNotAppend(t, want.log(), 0, api.ErrFull)

	nearly := planOf(1, rows(most-1, longest)...)
	want, place = nearly.with(data(nearly.next(), 49))
	mustAppend(t, nearly.log(), data(nearly.next(), 49), want.log(), place)
	if place != most-1 {
		t.Errorf("P6.1: the 64th segment's place is %d", place)
	}
}

func TestAppendTheLastNumber(t *testing.T) {
	for _, lengths := range [][][]int{nil, {{5}}, {{5}, {longest}}, {tiny()}, rows(most, longest), rows(most, 0)} {
		p := endingAt(lastNext, lengths...)
		for _, n := range []int{0, 1, longest} {
			mustNotAppend(t, p.log(), n, api.ErrFull)
		}
		mustNotAppend(t, p.log(), longest+1, api.ErrLong)
	}
	for _, lengths := range [][][]int{nil, {{5}}, {{5}, {longest}}, {tiny()}} {
		p := endingAt(lastNext-1, lengths...)
		want, place := p.with(data(p.next(), 9))
		mustAppend(t, p.log(), data(p.next(), 9), want.log(), place)
	}
}

// TestWhichErrorOfAppendComesFirst: too long and no room: too long.
func TestWhichErrorOfAppendComesFirst(t *testing.T) {
	mustNotAppend(t, planOf(1, rows(most, longest)...).log(), longest+1, api.ErrLong)
	mustNotAppend(t, planOf(lastNext).log(), longest+1, api.ErrLong)
	mustNotAppend(t, planOf(lastNext+1).log(), longest+1, api.ErrState)
	mustNotAppend(t, planOf(1, rows(most+1, longest)...).log(), longest+1, api.ErrState)
	mustNotAppend(t, planOf(1, rows(most+1, longest)...).log(), longest, api.ErrState)
	mustNotAppend(t, planOf(0).log(), 1<<20, api.ErrState)
}

func TestRecords(t *testing.T) {
	for _, p := range plans() {
		got, err := wal.Records(p.log())
		if err != api.OK || tellRecords(got) != tellRecords(p.records()) {
			t.Errorf("P6.1: Records(%s): %s, %v, want %s", short(p.log()), shortRecords(got), err, shortRecords(p.records()))
		}
	}
}

// TestWhatWasAppendedIsThere: record by record, till no more is taken, held against a plan.
func TestWhatWasAppendedIsThere(t *testing.T) {
	r := chanceOf(63)
	for range 6 {
		p := r.plan(r.Intn(3))
		l := p.log()
		for {
			d := data(r.Intn(1000), r.length())
			want, place := p.with(d)
			after, got, err := wal.Append(l, []byte(d))
			if place == most {
				if err != api.ErrFull || !isZero(after) || got != 0 {
					t.Fatalf("P6.1: Append(%s, %d octets): %s, %d, %v", short(l), len(d), short(after), got, err)
				}
				break
			}
			if err != api.OK || got != place || tell(after) != tell(want.log()) {
				t.Fatalf("P6.1, P6.3: Append(%s, %d octets): %s, %d, %v, want %s, %d", short(l), len(d), short(after), got, err, short(want.log()), place)
			}
			p, l = want, after
		}
		if got, err := wal.Records(l); err != api.OK || tellRecords(got) != tellRecords(p.records()) {
			t.Fatalf("P6.3: Records(%s): %s, %v", short(l), shortRecords(got), err)
		}
	}
}

// TestAppendOfRecords: records whose octets are themselves frames of records, or zeros, are what they are.
func TestAppendOfRecords(t *testing.T) {
	l := wal.Log{Next: 1}
	var want []string
	for _, d := range []string{record(1, "x"), record(2, ""), strings.Repeat("\x00", 48), frame(2, number(4)), record(5, record(6, "y")), "\xff\xff", ""} {
		after, _, err := wal.Append(l, []byte(d))
		if err != api.OK {
			t.Fatalf("P6.1: Append(%s, %x): %v", short(l), d, err)
		}
		want, l = append(want, d), after
		if got, err := wal.Records(l); err != api.OK || tellRecords(got) != tellRecords(recordsOf(1, want...)) {
			t.Fatalf("P6.3: Records(%s): %s, %v", short(l), shortRecords(got), err)
		}
	}
}

func TestDrop(t *testing.T) {
	p := planOf(10, []int{1, 2, 3}, []int{4}, []int{5, 6}) // 10 to 12, 13, 14 and 15
	for _, c := range []struct{ seq, dropped int }{
		{math.MinInt, 0}, {-1, 0}, {0, 0}, {8, 0}, {9, 0}, {10, 0}, {11, 0}, {12, 1}, {13, 2}, {14, 2}, {15, 3}, {16, 3}, {17, 3}, {lastNext, 3}, {lastNext + 1, 3}, {math.MaxInt, 3},
	} {
		want := wal.Log{Segs: p.log().Segs[c.dropped:], Next: 16}
		if got, err := wal.Drop(p.log(), c.seq); err != api.OK || tell(got) != tell(want) {
			t.Errorf("P6.2: Drop(%d): %s, %v, want %s", c.seq, short(got), err, short(want))
		}
	}
	for _, next := range []int{1, 2, lastNext} {
		for _, seq := range []int{math.MinInt, 0, 1, lastNext, math.MaxInt} {
			if got, err := wal.Drop(wal.Log{Next: next}, seq); err != api.OK || len(got.Segs) != 0 || got.Next != next {
				t.Errorf("P6.2: Drop(nothing, %d): %s, %v", seq, short(got), err)
			}
		}
	}
}

// TestDropAll: of every log that may be, at every number around those of its records.
func TestDropAll(t *testing.T) {
	for _, p := range plans() {
		for _, seq := range edges(p) {
			want := p.without(seq)
			got, err := wal.Drop(p.log(), seq)
			if err != api.OK || tell(got) != tell(want.log()) {
				t.Fatalf("P6.2: Drop(%s, %d): %s, %v, want %s", short(p.log()), seq, short(got), err, short(want.log()))
			}
			if err := wal.Check(got); err != api.OK {
				t.Fatalf("P6.2: Check(Drop(%s, %d)): %v", short(p.log()), seq, err)
			}
		}
	}
}

// edges are the numbers of the last record of each segment, one less and one more, and those far off.
func edges(p plan) []int {
	l := []int{0, p.first - 1, p.first, p.next(), lastNext}
	last := p.first - 1
	for i, seg := range p.segs {
		last += len(seg)
		if i < 5 || i > len(p.segs)-3 {
			l = append(l, last-1, last, last+1)
		}
	}
	return l
}

// TestDropAndAppend: what is dropped does not come back, and numbers go on.
func TestDropAndAppend(t *testing.T) {
	l := planOf(1, []int{5}).log()
	l, err := wal.Drop(l, 1)
	if err != api.OK {
		t.Fatalf("P6.2: Drop: %v", err)
	}
	mustAppend(t, l, data(2, 7), planOf(2, []int{7}).log(), 0)
	full := planOf(1, rows(most, longest)...)
	l, err = wal.Drop(full.log(), 3)
	if err != api.OK {
		t.Fatalf("P6.2: Drop: %v", err)
	}
	want, _ := full.without(3).with(data(most+1, longest))
	mustAppend(t, l, data(most+1, longest), want.log(), most-3)
}

// TestExample: example 1 of the chapter.
func TestExample(t *testing.T) {
	l := wal.Log{Next: 1}
	for i := range 2 {
		after, place, err := wal.Append(l, make([]byte, 300))
		if err != api.OK || place != i || len(after.Segs) != i+1 {
			t.Fatalf("P6.1: two records of 300 octets: %s, %d, %v", short(after), place, err)
		}
		l = after
	}
}
