package wal_test

import (
	"math"
	"strings"
	"testing"

	"fanlight/api"
	"fanlight/wal"
)

func mustScan(t *testing.T, seg string, next int, want []wal.Record, wantOctets int) {
	t.Helper()
	got, n := wal.Scan([]byte(seg), next)
	if n != wantOctets || tellRecords(got) != tellRecords(want) {
		t.Fatalf("P6.2: Scan(%.40x.., %d): %s, %d octets, want %s, %d", seg, next, shortRecords(got), n, shortRecords(want), wantOctets)
	}
}

func TestScan(t *testing.T) {
	a, b, c := record(5, "aa"), record(6, ""), record(7, data(7, longest))
	abc := recordsOf(5, "aa", "", data(7, longest))
	mustScan(t, a, 5, abc[:1], 18)
	mustScan(t, a+b, 5, abc[:2], 34)
	mustScan(t, a+b+c, 5, abc, 450)
	mustScan(t, b+c, 6, abc[1:], 432)
	// Behind what fits stands what does not.
	for _, behind := range []string{
		"", "\x00", strings.Repeat("\x00", 60), "x", "\x02", c[:len(c)-1], c[1:], a, b, record(8, ""), record(4, ""), record(0, ""), record(math.MaxUint64, ""),
		frame(1, number(7)), frame(3, number(7)), frame(255, number(7)+"x"), frame(2, ""), frame(2, "x"), frame(2, number(7)[1:]), record(7, data(7, longest+1)), record(7, strings.Repeat("x", api.MaxData-8)),
	} {
		mustScan(t, a+b+behind, 5, abc[:2], 34)
		if behind != a {
			mustScan(t, behind+b, 5, nil, 0)
		}
	}
}

// TestScanOfNothing: nor is anything found in what is no frame.
func TestScanOfNothing(t *testing.T) {
	if got, n := wal.Scan(nil, 1); len(got) != 0 || n != 0 {
		t.Errorf("P1, P6.2: Scan(nil, 1): %s, %d", shortRecords(got), n)
	}
	r := chanceOf(61)
	for n := range 100 {
		b := make([]byte, n)
		mustScan(t, string(b), 1, nil, 0)
		mustScan(t, string(b), 0, nil, 0)
		r.Read(b)
		mustScan(t, string(b), 1, nil, 0)
	}
	one := record(1, "one")
	for at := range len(one) {
		mustScan(t, one[:at], 1, nil, 0)
		for bit := range 8 {
			bent := []byte(one)
			bent[at] ^= 1 << bit
			mustScan(t, string(bent), 1, nil, 0)
		}
	}
}

// TestScanAnyNext: the number alone must be the one that is due; one of 8 octets is never below 0.
func TestScanAnyNext(t *testing.T) {
	seg := record(1, "a") + record(2, "b")
	for _, next := range []int{math.MinInt, math.MinInt + 1, -1 << 32, -2, -1, 0, 2, 3, 1<<32 + 1, 1<<56 + 1, lastNext - 1, lastNext, lastNext + 1, math.MaxInt - 1, math.MaxInt} {
		want, n := scanned(seg, next)
		mustScan(t, seg, next, want, n)
		if len(want) != 0 {
			t.Errorf("P6.2: no record is to be found from %d on", next)
		}
		// Octets that are the same number as next, where it wraps round.
		own := record(uint64(next), "a") + record(uint64(next)+1, "b") + record(uint64(next)+2, "c")
		want, n = scanned(own, next)
		mustScan(t, own, next, want, n)
		if next < 0 && len(want) != 0 {
			t.Errorf("P6.2: no record has the number %d", next)
		}
	}
	mustScan(t, record(0, "a")+record(1, "b"), 0, recordsOf(0, "a", "b"), 34)
	mustScan(t, record(lastNext, "a")+record(lastNext+1, "b"), lastNext, recordsOf(lastNext, "a", "b"), 34)
	mustScan(t, record(math.MaxInt, "a")+record(1<<63, "b"), math.MaxInt, recordsOf(math.MaxInt, "a"), 17)
}

// TestScanIsNotBoundBySegments: octets beyond 480 are scanned, too.
func TestScanIsNotBoundBySegments(t *testing.T) {
	p := planOf(9, make([]int, 3000))
	mustScan(t, string(p.log().Segs[0]), 9, p.records(), 3000*around)
	p = planOf(9, []int{longest, longest, longest})
	mustScan(t, string(p.log().Segs[0]), 9, p.records(), 3*(longest+around))
}

func TestScanCutAnywhere(t *testing.T) {
	p := planOf(3, []int{5, 0, 40, 1, 200})
	seg := string(p.log().Segs[0])
	for at := range len(seg) + 1 {
		whole, end := 0, 0
		for _, d := range p.segs[0] {
			if end+around+len(d) > at {
				break
			}
			whole, end = whole+1, end+around+len(d)
		}
		mustScan(t, seg[:at], 3, p.records()[:whole], end)
	}
}

func mustRecover(t *testing.T, segs []string, next int, want wal.Log) {
	t.Helper()
	got, err := wal.Recover(octets(segs...), next)
	if err != api.OK || tell(got) != tell(want) {
		t.Fatalf("P6.2: Recover(%d segments, %d): %s, %v, want %s", len(segs), next, short(got), err, short(want))
	}
}

func TestRecoverRefuses(t *testing.T) {
	one := []string{record(1, "a")}
	for _, next := range []int{0, -1, math.MinInt, lastNext + 1, math.MaxInt} {
		for _, segs := range [][]string{nil, one, make([]string, most), make([]string, most+1)} {
			if l, err := wal.Recover(octets(segs...), next); err != api.ErrRange || !isZero(l) {
				t.Errorf("P6.2: Recover(%d segments, %d): %s, %v", len(segs), next, short(l), err)
			}
		}
	}
	for _, next := range []int{1, 2, lastNext} {
		for _, segs := range [][]string{make([]string, most+1), texts(planOf(next, rows(most+1, 1)...).log().Segs), make([]string, 1000)} {
			if l, err := wal.Recover(octets(segs...), next); err != api.ErrCount || !isZero(l) {
				t.Errorf("P6.2: Recover(%d segments, %d): %s, %v", len(segs), next, short(l), err)
			}
		}
		mustRecover(t, make([]string, most), next, wal.Log{Next: next})
		mustRecover(t, nil, next, wal.Log{Next: next})
		mustRecover(t, []string{""}, next, wal.Log{Next: next})
	}
	if l, err := wal.Recover(nil, 1); err != api.OK || len(l.Segs) != 0 || l.Next != 1 {
		t.Errorf("P1, P6.2: Recover(nil, 1): %s, %v", short(l), err)
	}
}

// TestRecoverEnds: where the log ends, and whether with the segment where it ends or ahead of it.
func TestRecoverEnds(t *testing.T) {
	a, b, c := record(1, "a"), record(2, "b"), record(3, "c")
	zeros := strings.Repeat("\x00", 100)
	log := func(next int, segs ...string) wal.Log { return wal.Log{Segs: octets(segs...), Next: next} }
	for _, c := range []struct {
		name string
		segs []string
		want wal.Log
	}{
		{"one behind the other", []string{a, b, c}, log(4, a, b, c)},
		{"two in one", []string{a + b, c}, log(4, a+b, c)},
		{"zeros behind", []string{a + zeros, b + "\x00", c + zeros[:3]}, log(4, a, b, c)},
		{"zeros behind two", []string{a + b + zeros, c}, log(4, a+b, c)},
		{"an octet behind", []string{a + "x", b, c}, log(2, a)},
		{"an octet behind zeros", []string{a + zeros + "x", b, c}, log(2, a)},
		{"an octet behind, then zeros", []string{a + "\x01" + zeros, b, c}, log(2, a)},
		{"an octet behind the second", []string{a, b + "x", c}, log(3, a, b)},
		{"a record behind that is not due", []string{a + c, b, c}, log(2, a)},
		{"a record behind twice", []string{a + a, b, c}, log(2, a)},
		{"half a record behind", []string{a + b[:16], b, c}, log(2, a)},
		{"a record behind zeros", []string{a + zeros + b, b, c}, log(2, a)},
		{"another Kind behind", []string{a + frame(3, number(2)), b, c}, log(2, a)},
		{"empty first", []string{"", a, b}, log(1)},
		{"empty between", []string{a, "", b, c}, log(2, a)},
		{"empty last", []string{a, b, ""}, log(3, a, b)},
		{"zeros first", []string{zeros, a, b}, log(1)},
		{"zeros between", []string{a, zeros, b, c}, log(2, a)},
		{"zeros last", []string{a, b, zeros}, log(3, a, b)},
		{"a zero between", []string{a, "\x00", b}, log(2, a)},
		{"zeros ahead of a record", []string{a, "\x00" + b, c}, log(2, a)},
		{"no record between", []string{a, "xyz", b}, log(2, a)},
		{"half a record between", []string{a, b[:16], b, c}, log(2, a)},
		{"not the due one first", []string{b, a, c}, log(1)},
		{"one left out", []string{a, c, b}, log(2, a)},
		{"one twice", []string{a, a, b}, log(2, a)},
		{"another Kind", []string{a, frame(1, number(2)), b}, log(2, a)},
		{"7 octets", []string{a, frame(2, number(2)[1:]), b}, log(2, a)},
		{"401 octets", []string{a, record(2, data(2, longest+1)), b}, log(2, a)},
		{"the number 0", []string{record(0, ""), a}, log(1)},
	} {
		got, err := wal.Recover(octets(c.segs...), 1)
		if err != api.OK || tell(got) != tell(c.want) {
			t.Errorf("P6.2: Recover, %s: %s, %v, want %s", c.name, short(got), err, short(c.want))
		}
	}
	mustRecover(t, []string{b, c}, 2, log(4, b, c))
	mustRecover(t, []string{a, b, c}, 2, log(2))
	mustRecover(t, []string{a, b, c}, lastNext, log(lastNext))
}

// TestRecoverLongSegments: of a segment its first 480 octets count, and no others.
func TestRecoverLongSegments(t *testing.T) {
	full := planOf(1, []int{longest, 48}).log()
	first, second := string(full.Segs[0]), record(3, "c")
	both := wal.Log{Segs: octets(first, second), Next: 4}
	mustRecover(t, []string{first, second}, 1, both)
	mustRecover(t, []string{first + "\x00", second}, 1, both)
	mustRecover(t, []string{first + "xyz", second}, 1, both)
	mustRecover(t, []string{first + second, second}, 1, both)
	mustRecover(t, []string{first, second + strings.Repeat("\x00", size-len(second)) + "xyz"}, 1, both)
	mustRecover(t, []string{first + strings.Repeat("x", 1<<20), second}, 1, both)
	// The 480th octet counts, the 481st does not.
	short := record(1, "a")
	rest := strings.Repeat("\x00", size-len(short)-1)
	one := wal.Log{Segs: octets(short), Next: 2}
	mustRecover(t, []string{short + rest + "x", record(2, "b")}, 1, one)
	mustRecover(t, []string{short + rest + "\x00x", record(2, "b")}, 1, wal.Log{Segs: octets(short, record(2, "b")), Next: 3})
	// A record that reaches beyond the 480th is not there, and its beginning is no zeros.
	beyond := string(planOf(1, []int{longest, 49}).log().Segs[0])
	mustRecover(t, []string{beyond, record(2, "b"), record(3, "c")}, 1, wal.Log{Segs: octets(beyond[:longest+around]), Next: 2})
	tiny := planOf(1, make([]int, 31)).log().Segs[0]
	mustRecover(t, []string{string(tiny), record(31, "")}, 1, wal.Log{Segs: octets(string(tiny[:size]), record(31, "")), Next: 32})
	mustRecover(t, []string{strings.Repeat("\x00", size) + record(1, "a")}, 1, wal.Log{Next: 1})
}

// TestRecoverTheLastNumbers: up to the greatest Next the log may be.
func TestRecoverTheLastNumbers(t *testing.T) {
	for _, lengths := range [][][]int{{{5}}, {{5, 6}, {7}}, {tiny()}, rows(most, longest)} {
		p := endingAt(lastNext, lengths...)
		mustRecover(t, texts(p.log().Segs), p.first, p.log())
		if err := wal.Check(p.log()); err != api.OK {
			t.Errorf("P6.1: Check(%s): %v", short(p.log()), err)
		}
	}
	// What Scan tells counts, though no Append writes the number 2^40.
	mustRecover(t, []string{record(lastNext, "a")}, lastNext, wal.Log{Segs: octets(record(lastNext, "a")), Next: lastNext + 1})
}

// padded is l's segments with zeros up to 480 octets.
func padded(l wal.Log) []string {
	segs := texts(l.Segs)
	for i, seg := range segs {
		segs[i] = seg + strings.Repeat("\x00", size-len(seg))
	}
	return segs
}

func TestRecoveredItIsItself(t *testing.T) {
	for _, p := range plans() {
		got, err := wal.Recover(p.log().Segs, p.first)
		if err != api.OK || tell(got) != tell(p.log()) {
			t.Errorf("P6.4: Recover(%s, %d): %s, %v", short(p.log()), p.first, short(got), err)
		}
		got, err = wal.Recover(octets(padded(p.log())...), p.first)
		if err != api.OK || tell(got) != tell(p.log()) {
			t.Errorf("P6.4: Recover(%s with zeros, %d): %s, %v", short(p.log()), p.first, short(got), err)
		}
		if len(p.segs) == 0 {
			continue
		}
		for _, next := range []int{p.first - 1, p.first + 1, p.next()} {
			got, err := wal.Recover(p.log().Segs, next)
			if next >= 1 && (err != api.OK || len(got.Segs) != 0 || got.Next != next) {
				t.Errorf("P6.2: Recover(%s, %d): %s, %v", short(p.log()), next, short(got), err)
			}
		}
	}
}

// cutPlan is what is left of p if its last segment has no more than the first at octets.
func cutPlan(p plan, at int) plan {
	last := len(p.segs) - 1
	left := plan{first: p.first, segs: append([][]string{}, p.segs[:last]...)}
	var seg []string
	for _, d := range p.segs[last] {
		if octetsOf(append(seg[:len(seg):len(seg)], d)) > at {
			break
		}
		seg = append(seg, d)
	}
	if len(seg) > 0 {
		left.segs = append(left.segs, seg)
	}
	return left
}

// TestCutOffAnywhere: of segments the last of which is cut off a beginning is recovered, and one that may be, whatever stands behind.
func TestCutOffAnywhere(t *testing.T) {
	r := chanceOf(64)
	for i := range 12 {
		p := r.plan(1 + i%4)
		segs := texts(p.log().Segs)
		last := len(segs) - 1
		whole := segs[last]
		for at := range len(whole) + 1 {
			segs[last] = whole[:at]
			mustRecover(t, segs, p.first, cutPlan(p, at).log())
			for _, behind := range []string{"", strings.Repeat("\x00", size-at), strings.Repeat("\xa5", size-at)} {
				segs[last] = whole[:at] + behind
				got, err := wal.Recover(octets(segs...), p.first)
				if err != api.OK || tell(got) != tell(recovered(segs, p.first)) || wal.Check(got) != api.OK {
					t.Fatalf("P6.4: Recover of %s cut off at %d: %s, %v", short(p.log()), at, short(got), err)
				}
				all, err := wal.Records(got)
				if err != api.OK || !strings.HasPrefix(tellRecords(p.records()), tellRecords(all)) {
					t.Fatalf("P6.4: the records of %s cut off at %d: %s, %v", short(p.log()), at, shortRecords(all), err)
				}
			}
		}
	}
}

// broken is segs with a fault or two by chance.
func (r chance) broken(segs []string) []string {
	for range r.Intn(3) {
		if len(segs) == 0 {
			return segs
		}
		i := r.Intn(len(segs))
		seg := segs[i]
		switch r.Intn(7) {
		case 0:
			segs[i] = seg[:r.Intn(len(seg)+1)]
		case 1:
			segs[i] = seg + strings.Repeat("\x00", r.Intn(600))
		case 2:
			segs[i] = seg + "\x00\x00" + string(rune(r.Intn(3)))
		case 3:
			if len(seg) > 0 {
				b := []byte(seg)
				b[r.Intn(len(b))] ^= 1 << r.Intn(8)
				segs[i] = string(b)
			}
		case 4:
			segs[i] = seg + segs[r.Intn(len(segs))]
		case 5:
			segs = append(segs[:i], segs[i+1:]...)
		case 6:
			segs[i] = segs[r.Intn(len(segs))]
		}
	}
	return segs
}

// TestRecoverByChance: segments with faults, held against the chapter's words.
func TestRecoverByChance(t *testing.T) {
	r := chanceOf(65)
	for range 3000 {
		p := r.plan(r.Intn(6))
		segs := texts(p.log().Segs)
		if r.Intn(2) == 0 {
			segs = padded(p.log())
		}
		segs = r.broken(segs)
		next := max(1, p.first+r.Intn(12)/11)
		want := recovered(segs, next)
		got, err := wal.Recover(octets(segs...), next)
		if err != api.OK || tell(got) != tell(want) {
			t.Fatalf("P6.2: Recover(%s, broken, %d): %s, %v, want %s", short(p.log()), next, short(got), err, short(want))
		}
		if err := wal.Check(got); err != api.OK {
			t.Fatalf("P6.2: Check(%s): %v", short(got), err)
		}
		for _, seg := range segs {
			for _, from := range []int{next, next + 1, p.next() - 1} {
				want, n := scanned(seg, from)
				mustScan(t, seg, from, want, n)
			}
		}
	}
}
