package disk_test

import (
	"bytes"
	"math"
	"strings"
	"testing"

	"fanlight/api"
	"fanlight/disk"
)

func TestNew(t *testing.T) {
	for _, n := range []int{1, 2, 3, 340, 980, most - 1, most} {
		s, err := disk.New(n)
		if err != api.OK || len(s.Sectors) != n || len(s.Cache) != 0 {
			t.Errorf("P5.1: New(%d): %d sectors, %d writes, %v", n, len(s.Sectors), len(s.Cache), err)
		}
		for i, sector := range s.Sectors {
			if !bytes.Equal(sector, make([]byte, size)) {
				t.Fatalf("P5.1: New(%d): sector %d is %x", n, i, sector)
			}
		}
		if err := disk.Check(s); err != api.OK {
			t.Errorf("P5.1: Check of New(%d): %v", n, err)
		}
	}
	for _, n := range []int{0, -1, -most, most + 1, 2 * most, 1 << 32, 1<<32 + 1, math.MaxInt, math.MinInt} {
		if s, err := disk.New(n); err != api.ErrRange || !isZero(s) {
			t.Errorf("P5.1: New(%d): %d sectors, %v", n, len(s.Sectors), err)
		}
	}
}

func TestCheck(t *testing.T) {
	for _, s := range may() {
		if err := disk.Check(s); err != api.OK {
			t.Errorf("P5.1: Check(%s): %v", short(s), err)
		}
	}
	for cause, s := range mayNot() {
		if err := disk.Check(s); err != api.ErrState {
			t.Errorf("P5.1: Check, %s: %v", cause, err)
		}
	}
}

// TestCheckFindsOneFault: one broken part anywhere makes a state that may not be.
func TestCheckFindsOneFault(t *testing.T) {
	for i := range 20 {
		s := holding(strings.Repeat("m", 20), waiting(20)...)
		s.Sectors[i] = s.Sectors[i][:size-1]
		if err := disk.Check(s); err != api.ErrState {
			t.Errorf("P5.1: Check, sector %d of 47 octets: %v", i, err)
		}
		for _, w := range []api.Write{barrier(), {}, write(-1, "x"), write(20, "x"), write(19, "xy"), {Data: make([]byte, size+1)}} {
			s = holding(strings.Repeat("m", 20), waiting(20)...)
			s.Cache[i] = w
			if err := disk.Check(s); err != api.ErrState {
				t.Errorf("P5.1: Check, write %d is %s: %v", i, shortWrite(w), err)
			}
		}
	}
}

// TestOthersCheckFirst: Check's error goes ahead of every other one, and beside it nothing is answered.
func TestOthersCheckFirst(t *testing.T) {
	for cause, s := range mayNot() {
		for _, w := range []api.Write{write(0, "x"), barrier(), {}, write(-1, "x"), {Flush: true, Sector: 1}} {
			if after, err := disk.Do(s, w); err != api.ErrState || !isZero(after) {
				t.Errorf("P5.1: Do, %s, %s: %s, %v", cause, shortWrite(w), short(after), err)
			}
			if after, n, err := disk.Run(s, []api.Write{w, w}); err != api.ErrState || n != 0 || !isZero(after) {
				t.Errorf("P5.1: Run, %s, %s: %s, %d, %v", cause, shortWrite(w), short(after), n, err)
			}
		}
		if after, n, err := disk.Run(s, nil); err != api.ErrState || n != 0 || !isZero(after) {
			t.Errorf("P5.1: Run of nothing, %s: %s, %d, %v", cause, short(after), n, err)
		}
		for _, c := range [][2]int{{0, 0}, {0, 1}, {-1, 0}, {0, -1}, {0, most + 1}, {math.MaxInt, math.MaxInt}} {
			if b, err := disk.Read(s, c[0], c[1]); err != api.ErrState || len(b) != 0 {
				t.Errorf("P5.1: Read(%d, %d), %s: %d octets, %v", c[0], c[1], cause, len(b), err)
			}
		}
		for _, keep := range [][]int{nil, {1}, {-1, 1, most}} {
			if after, err := disk.Crash(s, keep); err != api.ErrState || !isZero(after) {
				t.Errorf("P5.1: Crash(%v), %s: %s, %v", keep, cause, short(after), err)
			}
		}
	}
}

func TestPadded(t *testing.T) {
	for _, c := range []struct{ octets, want int }{
		{0, 0}, {1, 48}, {2, 48}, {47, 48}, {48, 48}, {49, 96}, {95, 96}, {96, 96}, {97, 144}, {480, 480}, {8160, 8160}, {8161, 8208}, {1 << 20, 1048608},
	} {
		b := bytes.Repeat([]byte{0xa5}, c.octets)
		got := disk.Padded(b)
		if len(got) != c.want || !bytes.HasPrefix(got, b) || len(bytes.Trim(got[c.octets:], "\x00")) != 0 {
			t.Errorf("P5.1: Padded of %d octets: %d, want %d", c.octets, len(got), c.want)
		}
	}
	if got := disk.Padded(nil); len(got) != 0 {
		t.Errorf("P1, P5.1: Padded(nil): %x", got)
	}
	if got := disk.Padded([]byte{1, 2, 3}); string(got) != "\x01\x02\x03"+strings.Repeat("\x00", 45) {
		t.Errorf("P5.1: Padded of 1, 2, 3: %x", got)
	}
}

// mustDo holds what Do answers against what is told by letters: the sectors and the writes that wait.
func mustDo(t *testing.T, s disk.State, w api.Write, want disk.State) {
	t.Helper()
	if after, err := disk.Do(s, w); err != api.OK || tell(after) != tell(want) {
		t.Fatalf("P5.1: Do(%s, %s): %s, %v, want %s", short(s), shortWrite(w), short(after), err, short(want))
	}
}

func TestDoLetsAWriteWait(t *testing.T) {
	x := write(0, "x")
	for _, w := range []api.Write{x, write(1, "x"), write(2, "x"), write(0, "xy"), write(1, "xy"), write(0, "xyz")} {
		mustDo(t, holding("abc"), w, holding("abc", w))
		mustDo(t, holding("abc", x), w, holding("abc", x, w))
		mustDo(t, holding("abc", x, write(1, "yz")), w, holding("abc", x, write(1, "yz"), w))
	}
	mustDo(t, holding("a"), x, holding("a", x))
	whole := write(0, strings.Repeat("n", most))
	mustDo(t, holding(strings.Repeat("m", most)), whole, holding(strings.Repeat("m", most), whole))
	mustDo(t, holding(strings.Repeat("m", most)), write(most-1, "x"), holding(strings.Repeat("m", most), write(most-1, "x")))
	mustDo(t, holding("abc", waiting(most-1)...), x, holding("abc", append(waiting(most-1), x)...))
}

func TestDoABarrier(t *testing.T) {
	for _, c := range []struct {
		s    disk.State
		want string
	}{
		{holding("abc"), "abc"},
		{holding("abc", write(0, "x")), "xbc"},
		{holding("abc", write(2, "x")), "abx"},
		{holding("abc", write(1, "xy")), "axy"},
		{holding("abc", write(0, "xyz")), "xyz"},
		{holding("abc", write(0, "xyz"), write(1, "w")), "xwz"},
		{holding("abc", write(1, "w"), write(0, "xyz")), "xyz"},
		{holding("abc", write(0, "xy"), write(1, "uv")), "xuv"},
		{holding("abc", write(1, "uv"), write(0, "xy")), "xyv"},
		{holding("abc", write(1, "x"), write(1, "y"), write(1, "x"), write(1, "z")), "azc"},
		{holding("abc", waiting(most)...), string([]rune{'a' + 4095%26, 'a' + 4093%26, 'a' + 4094%26})},
		{holding(strings.Repeat("m", most), write(0, strings.Repeat("n", most))), strings.Repeat("n", most)},
		{holding(strings.Repeat("m", most), write(1, strings.Repeat("n", most-1))), "m" + strings.Repeat("n", most-1)},
	} {
		for _, w := range []api.Write{barrier(), {Flush: true, Data: []byte{}}} {
			mustDo(t, c.s, w, holding(c.want))
		}
	}
}

// TestDoRefuses: in the order in which the chapter names the errors.
func TestDoRefuses(t *testing.T) {
	part := func(sector, n int) api.Write { return api.Write{Sector: sector, Data: make([]byte, n)} }
	for _, c := range []struct {
		w    api.Write
		want api.Errno
	}{
		{api.Write{Flush: true, Sector: 1}, api.ErrArg},
		{api.Write{Flush: true, Sector: -1}, api.ErrArg},
		{api.Write{Flush: true, Sector: 3}, api.ErrArg},
		{api.Write{Flush: true, Sector: math.MaxInt}, api.ErrArg},
		{api.Write{Flush: true, Sector: math.MinInt}, api.ErrArg},
		{api.Write{Flush: true, Data: []byte{0}}, api.ErrArg},
		{api.Write{Flush: true, Data: octets("x")}, api.ErrArg},
		{api.Write{Flush: true, Sector: 1, Data: octets("x")}, api.ErrArg},
		{api.Write{Flush: true, Sector: -1, Data: octets("xyzw")}, api.ErrArg},

		{write(-1, "x"), api.ErrRange},
		{write(-1, "xy"), api.ErrRange},
		{write(-4, "wxyz"), api.ErrRange},
		{write(math.MinInt, "x"), api.ErrRange},
		{write(3, "x"), api.ErrRange},
		{write(4, "x"), api.ErrRange},
		{write(2, "xy"), api.ErrRange},
		{write(1, "xyz"), api.ErrRange},
		{write(0, "wxyz"), api.ErrRange},
		{write(math.MaxInt, "x"), api.ErrRange},
		{write(math.MaxInt, "xy"), api.ErrRange},
		{write(math.MaxInt-1, "xyz"), api.ErrRange},
		{write(1<<32, "x"), api.ErrRange},
		{write(1<<60, "x"), api.ErrRange},
		{part(0, 4097*size), api.ErrRange},

		{part(-1, 0), api.ErrRange},
		{part(math.MinInt, 0), api.ErrRange},
		{part(-1, 1), api.ErrRange},
		{part(-1, 47), api.ErrRange},
		{part(3, 1), api.ErrRange},
		{part(3, 47), api.ErrRange},
		{part(2, 49), api.ErrRange},
		{part(0, 3*size+1), api.ErrRange},
		{part(math.MaxInt, 1), api.ErrRange},

		{part(0, 0), api.ErrArg},
		{part(1, 0), api.ErrArg},
		{part(3, 0), api.ErrArg},
		{part(4, 0), api.ErrArg},
		{part(math.MaxInt, 0), api.ErrArg},
		{api.Write{Sector: 2, Data: []byte{}}, api.ErrArg},
		{part(0, 1), api.ErrArg},
		{part(0, 47), api.ErrArg},
		{part(0, 49), api.ErrArg},
		{part(1, 95), api.ErrArg},
		{part(2, 1), api.ErrArg},
		{part(2, 47), api.ErrArg},
		{part(0, 3*size-1), api.ErrArg},
	} {
		for _, s := range []disk.State{holding("abc"), holding("abc", write(0, "x")), holding("abc", waiting(most)...)} {
			if after, err := disk.Do(s, c.w); err != c.want || !isZero(after) {
				t.Errorf("P5.1: Do(%s, %s): %s, %v, want %v", short(s), shortWrite(c.w), short(after), err, c.want)
			}
		}
	}
}

// TestDoWhereAllWait: no write more, but a barrier, and then there is room again.
func TestDoWhereAllWait(t *testing.T) {
	s := holding("abc", waiting(most)...)
	for _, w := range []api.Write{write(0, "x"), write(2, "x"), write(0, "xyz")} {
		if after, err := disk.Do(s, w); err != api.ErrFull || !isZero(after) {
			t.Errorf("P5.1: Do(%s) where 4096 wait: %s, %v", shortWrite(w), short(after), err)
		}
	}
	after, err := disk.Do(s, barrier())
	if err != api.OK || len(after.Cache) != 0 {
		t.Fatalf("P5.1: a barrier where 4096 wait: %s, %v", short(after), err)
	}
	if after, err = disk.Do(after, write(0, "x")); err != api.OK || len(after.Cache) != 1 {
		t.Errorf("P5.1: a write behind it: %s, %v", short(after), err)
	}
}

func TestRun(t *testing.T) {
	x, y, z := write(0, "x"), write(1, "yy"), write(2, "z")
	empty, far, flush := api.Write{}, write(3, "x"), barrier()
	for _, c := range []struct {
		s    disk.State
		l    []api.Write
		want disk.State
		n    int
		err  api.Errno
	}{
		{holding("abc"), nil, holding("abc"), 0, api.OK},
		{holding("abc", x), []api.Write{}, holding("abc", x), 0, api.OK},
		{holding("abc"), []api.Write{x}, holding("abc", x), 1, api.OK},
		{holding("abc"), []api.Write{x, y, z}, holding("abc", x, y, z), 3, api.OK},
		{holding("abc", z), []api.Write{x, y}, holding("abc", z, x, y), 2, api.OK},
		{holding("abc", z), []api.Write{x, flush, y}, holding("xbz", y), 3, api.OK},
		{holding("abc"), []api.Write{x, y, z, flush}, holding("xyz"), 4, api.OK},
		{holding("abc"), []api.Write{z, y, x, flush, flush}, holding("xyy"), 5, api.OK},
		{holding("abc"), []api.Write{far}, holding("abc"), 0, api.ErrRange},
		{holding("abc", x), []api.Write{empty, y}, holding("abc", x), 0, api.ErrArg},
		{holding("abc"), []api.Write{x, empty, y}, holding("abc", x), 1, api.ErrArg},
		{holding("abc"), []api.Write{x, flush, y, far, flush}, holding("xbc", y), 3, api.ErrRange},
		{holding("abc"), []api.Write{x, flush, y, flush, far}, holding("xyy"), 4, api.ErrRange},
		{holding("abc", x), []api.Write{y, {Flush: true, Sector: 1}}, holding("abc", x, y), 1, api.ErrArg},
		{holding("abc", waiting(most)...), []api.Write{x, flush}, holding("abc", waiting(most)...), 0, api.ErrFull},
		{holding("abc", waiting(most-1)...), []api.Write{z, x, flush}, holding("abc", append(waiting(most-1), z)...), 1, api.ErrFull},
		{holding("abc"), append(waiting(most), x), holding("abc", waiting(most)...), most, api.ErrFull},
		{holding("abc"), append(waiting(most), far), holding("abc", waiting(most)...), most, api.ErrRange},
	} {
		after, n, err := disk.Run(c.s, c.l)
		if err != c.err || n != c.n || tell(after) != tell(c.want) {
			t.Errorf("P5.1: Run(%s, %d writes): %s, %d, %v, want %s, %d, %v", short(c.s), len(c.l), short(after), n, err, short(c.want), c.n, c.err)
		}
	}
}

// TestRunIsDoByDo: as Do does one after another, and as the chapter's words say.
func TestRunIsDoByDo(t *testing.T) {
	r := chanceOf(51)
	for range 2000 {
		s := r.state()
		var l []api.Write
		for range r.Intn(12) {
			l = append(l, r.write(len(s.Sectors)))
		}
		want, byDo, n, err := s, s, 0, api.OK
		for _, w := range l {
			if err = refused(want, w); err != api.OK {
				break
			}
			want, n = done(want, w), n+1
			byDo, _ = disk.Do(byDo, w)
		}
		after, gotN, gotErr := disk.Run(s, l)
		if tell(after) != tell(want) || gotN != n || gotErr != err {
			t.Fatalf("P5.1: Run(%s, %d writes): %s, %d, %v, want %s, %d, %v", short(s), len(l), short(after), gotN, gotErr, short(want), n, err)
		}
		if tell(after) != tell(byDo) {
			t.Fatalf("P5.1: Run(%s, %d writes): %s, Do by Do %s", short(s), len(l), short(after), short(byDo))
		}
	}
}

// TestRunOfMany: a disk of all sectors, and many barriers between.
func TestRunOfMany(t *testing.T) {
	s, _ := disk.New(most)
	var l []api.Write
	for i := range 20000 {
		l = append(l, write(i*7%most, string(rune('a'+i%26))), barrier())
	}
	after, n, err := disk.Run(s, l)
	if n != len(l) || err != api.OK || len(after.Cache) != 0 {
		t.Fatalf("P5.1: Run of %d: %d, %v", len(l), n, err)
	}
	for i := 20000 - most; i < 20000; i++ {
		if got := letters(after.Sectors[i*7%most]); got != string(rune('a'+i%26)) {
			t.Fatalf("P5.1: Run of %d: sector %d is %s", len(l), i*7%most, got)
		}
	}
}

// TestDoByTheWords: states and writes by chance, those that are refused too.
func TestDoByTheWords(t *testing.T) {
	r := chanceOf(52)
	for range 5000 {
		s := r.state()
		w := r.write(len(s.Sectors))
		want, wantErr := disk.State{}, refused(s, w)
		if wantErr == api.OK {
			want = done(s, w)
		}
		after, err := disk.Do(s, w)
		if err != wantErr || tell(after) != tell(want) {
			t.Fatalf("P5.1: Do(%s, %s): %s, %v, want %s, %v", short(s), shortWrite(w), short(after), err, short(want), wantErr)
		}
	}
}

// TestStatesStayStates: what is answered may be, by Check and by the chapter's words.
func TestStatesStayStates(t *testing.T) {
	r := chanceOf(53)
	for range 300 {
		s := r.state()
		for range 10 {
			after, _, _ := disk.Run(s, []api.Write{r.write(len(s.Sectors)), r.write(len(s.Sectors))})
			crashed, _ := disk.Crash(after, r.keep(len(after.Cache)))
			for _, x := range []disk.State{after, crashed} {
				if disk.Check(x) != api.OK || !mayBe(x) || len(x.Sectors) != len(s.Sectors) {
					t.Fatalf("P5.1: behind %s stands %s", short(s), short(x))
				}
			}
			s = after
		}
	}
}
