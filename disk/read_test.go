package disk_test

import (
	"math"
	"strings"
	"testing"

	"fanlight/api"
	"fanlight/disk"
)

func TestRead(t *testing.T) {
	for _, c := range []struct {
		s         disk.State
		sector, n int
		want      string
	}{
		{holding("abc"), 0, 0, ""},
		{holding("abc"), 1, 0, ""},
		{holding("abc"), 3, 0, ""},
		{holding("abc"), 0, 1, "a"},
		{holding("abc"), 1, 1, "b"},
		{holding("abc"), 2, 1, "c"},
		{holding("abc"), 0, 2, "ab"},
		{holding("abc"), 1, 2, "bc"},
		{holding("abc"), 0, 3, "abc"},
		{holding("a"), 0, 1, "a"},
		{holding("abc", write(0, "x")), 0, 3, "xbc"},
		{holding("abc", write(0, "x")), 1, 2, "bc"},
		{holding("abc", write(2, "x")), 0, 3, "abx"},
		{holding("abc", write(2, "x")), 0, 2, "ab"},
		{holding("abc", write(0, "xyz")), 1, 1, "y"},
		{holding("abc", write(0, "xyz")), 0, 3, "xyz"},
		{holding("abc", write(0, "xyz"), write(1, "w")), 0, 3, "xwz"},
		{holding("abc", write(1, "w"), write(0, "xyz")), 0, 3, "xyz"},
		{holding("abcde", write(1, "wx"), write(2, "yz")), 0, 5, "awyze"},
		{holding("abcde", write(1, "wx"), write(2, "yz")), 2, 1, "y"},
		{holding("abcde", write(1, "w"), write(1, "x"), write(1, "w")), 1, 1, "w"},
		{holding("abc", waiting(most)...), 0, 3, string([]rune{'a' + 4095%26, 'a' + 4093%26, 'a' + 4094%26})},
		{holding(strings.Repeat("m", most), write(most-1, "x")), 0, most, strings.Repeat("m", most-1) + "x"},
		{holding(strings.Repeat("m", most), write(most-1, "x")), most - 1, 1, "x"},
		{holding(strings.Repeat("m", most), write(0, strings.Repeat("n", most))), 0, most, strings.Repeat("n", most)},
		{holding(strings.Repeat("m", most), write(0, strings.Repeat("n", most))), most - 1, 1, "n"},
		{holding(strings.Repeat("m", most)), most, 0, ""},
	} {
		b, err := disk.Read(c.s, c.sector, c.n)
		if string(b) != string(octets(c.want)) || err != api.OK {
			t.Errorf("P5.2: Read(%s, %d, %d): %s, %v", short(c.s), c.sector, c.n, letters(b), err)
		}
	}
}

func TestReadRefuses(t *testing.T) {
	for _, s := range []disk.State{holding("abc"), holding("abc", write(0, "xyz"))} {
		for _, c := range [][2]int{
			{0, 4}, {1, 3}, {2, 2}, {3, 1}, {4, 1}, {0, 5}, {4, 0}, {100, 0},
			{-1, 0}, {-1, 1}, {-1, 2}, {-1, 4}, {-3, 3}, {0, -1}, {1, -1}, {3, -1}, {4, -1}, {-1, -1}, {100, -97},
			{math.MaxInt, 0}, {math.MaxInt, 1}, {math.MaxInt, 4}, {0, math.MaxInt}, {1, math.MaxInt}, {2, math.MaxInt}, {3, math.MaxInt},
			{math.MaxInt, math.MaxInt}, {math.MaxInt - 1, 2}, {math.MaxInt, math.MinInt}, {math.MinInt, math.MaxInt}, {math.MinInt, math.MinInt},
			{math.MinInt, 0}, {math.MinInt, 1}, {0, math.MinInt}, {3, math.MinInt}, {1 << 32, 1}, {0, 1 << 32}, {0, 1 << 60}, {1 << 60, 1},
		} {
			if b, err := disk.Read(s, c[0], c[1]); err != api.ErrRange || len(b) != 0 {
				t.Errorf("P5.2: Read(%s, %d, %d): %s, %v", short(s), c[0], c[1], letters(b), err)
			}
		}
	}
	full := holding(strings.Repeat("m", most))
	for _, c := range [][2]int{{0, most + 1}, {1, most}, {most, 1}, {most - 1, 2}} {
		if b, err := disk.Read(full, c[0], c[1]); err != api.ErrRange || len(b) != 0 {
			t.Errorf("P5.2: Read(%d, %d) of 4096 sectors: %d octets, %v", c[0], c[1], len(b), err)
		}
	}
}

// TestWrittenIsRead: whatever waits, and behind a barrier; what no write has is as it was.
func TestWrittenIsRead(t *testing.T) {
	r := chanceOf(54)
	for range 1500 {
		s := r.state()
		n := len(s.Sectors)
		w := r.fits(n)
		was, _ := disk.Read(s, 0, n)
		after, err := disk.Do(s, w)
		if err != api.OK {
			t.Fatalf("P5.3: Do(%s, %s): %v", short(s), shortWrite(w), err)
		}
		flushed, _ := disk.Do(after, barrier())
		for _, x := range []disk.State{after, flushed} {
			want := append(append(append([]byte{}, was[:w.Sector*size]...), w.Data...), was[w.Sector*size+len(w.Data):]...)
			if b, err := disk.Read(x, w.Sector, len(w.Data)/size); string(b) != string(w.Data) || err != api.OK {
				t.Fatalf("P5.3: %s was written, read is %s, %v", shortWrite(w), letters(b), err)
			}
			if b, err := disk.Read(x, 0, n); string(b) != string(want) || err != api.OK {
				t.Fatalf("P5.3: behind %s the disk reads %s, %v, want %s", shortWrite(w), letters(b), err, letters(want))
			}
		}
	}
}

// TestReadByTheWords: any part of any disk.
func TestReadByTheWords(t *testing.T) {
	r := chanceOf(55)
	for range 300 {
		s := r.state()
		for from := 0; from <= len(s.Sectors); from++ {
			var want []byte
			for n := 0; from+n <= len(s.Sectors); n++ {
				if n > 0 {
					want = append(want, stands(s, from+n-1, all)...)
				}
				if b, err := disk.Read(s, from, n); string(b) != string(want) || err != api.OK {
					t.Fatalf("P5.2: Read(%s, %d, %d): %s, %v, want %s", short(s), from, n, letters(b), err, letters(want))
				}
			}
		}
	}
}

// mustCrash holds what Crash answers against what is told by letters; none waits.
func mustCrash(t *testing.T, s disk.State, keep []int, want disk.State) {
	t.Helper()
	if after, err := disk.Crash(s, keep); err != api.OK || tell(after) != tell(want) {
		t.Fatalf("P5.2: Crash(%s, %v): %s, %v, want %s", short(s), keep, short(after), err, short(want))
	}
}

func TestCrash(t *testing.T) {
	two := holding("abc", write(1, "xy"))
	over := holding("abcd", write(0, "wxyz"), write(1, "pq"))
	for _, c := range []struct {
		s    disk.State
		keep []int
		want string
	}{
		{holding("abc"), nil, "abc"},
		{holding("abc"), []int{1, 2, 3}, "abc"},
		{two, nil, "abc"},
		{two, []int{}, "abc"},
		{two, []int{0}, "abc"},
		{two, []int{-1}, "abc"},
		{two, []int{math.MinInt}, "abc"},
		{two, []int{1}, "axc"},
		{two, []int{2}, "axy"},
		{two, []int{3}, "axy"},
		{two, []int{4097}, "axy"},
		{two, []int{math.MaxInt}, "axy"},
		{two, []int{1, 2}, "axc"},
		{two, []int{1, -1, 7}, "axc"},
		{over, nil, "abcd"},
		{over, []int{4}, "wxyz"},
		{over, []int{4, 0}, "wxyz"},
		{over, []int{4, -3}, "wxyz"},
		{over, []int{4, 1}, "wpyz"},
		{over, []int{4, 2}, "wpqz"},
		{over, []int{4, 9}, "wpqz"},
		{over, []int{2, 1}, "wpcd"},
		{over, []int{3, 1}, "wpyd"},
		{over, []int{0, 2}, "apqd"},
		{over, []int{-1, 1}, "apcd"},
		{over, []int{1, 1, 4, 4}, "wpcd"},
		{holding("abc", write(1, "x"), write(1, "y"), write(1, "z")), []int{1, 1, 0}, "ayc"},
		{holding("abc", write(1, "x"), write(1, "y"), write(1, "z")), []int{1, 0, 1}, "azc"},
		{holding("abc", write(1, "x"), write(1, "y"), write(1, "z")), []int{1}, "axc"},
	} {
		mustCrash(t, c.s, c.keep, holding(c.want))
	}
	large := holding(strings.Repeat("m", most), write(0, strings.Repeat("n", most)))
	for _, keep := range []int{0, 1, most - 1, most, most + 1, math.MaxInt} {
		n := min(keep, most)
		mustCrash(t, large, []int{keep}, holding(strings.Repeat("n", n)+strings.Repeat("m", most-n)))
	}
}

// TestEveryCrash: of a few overlapping writes whatever may be kept.
func TestEveryCrash(t *testing.T) {
	s := holding("abcd", write(0, "efg"), write(1, "hij"), write(2, "k"), write(0, "lm"))
	for a := -1; a <= 4; a++ {
		for b := -1; b <= 4; b++ {
			for c := -1; c <= 2; c++ {
				for d := -1; d <= 3; d++ {
					for n := range 6 {
						keep := []int{a, b, c, d, 9}[:n]
						mustCrash(t, s, keep, settled(s, by(keep)))
					}
				}
			}
		}
	}
}

func TestCrashByTheWords(t *testing.T) {
	r := chanceOf(56)
	for range 3000 {
		s := r.state()
		keep := r.keep(len(s.Cache))
		mustCrash(t, s, keep, settled(s, by(keep)))
	}
}

// TestCrashBehindABarrier: it changes nothing, whatever it keeps.
func TestCrashBehindABarrier(t *testing.T) {
	r := chanceOf(57)
	for range 1000 {
		flushed, err := disk.Do(r.state(), barrier())
		if err != api.OK {
			t.Fatalf("P5.4: a barrier: %v", err)
		}
		for _, keep := range [][]int{nil, {0}, {-1}, {1, 2, 3}, {math.MaxInt, math.MinInt}, r.keep(6)} {
			if after, err := disk.Crash(flushed, keep); err != api.OK || tell(after) != tell(flushed) {
				t.Fatalf("P5.4: behind a barrier %s, behind Crash(%v) %s, %v", short(flushed), keep, short(after), err)
			}
		}
	}
}

// TestBarrierHoldsWhatWaited: what was read ahead of the barrier is there behind it and any crash.
func TestBarrierHoldsWhatWaited(t *testing.T) {
	r := chanceOf(58)
	for range 1000 {
		s := r.state()
		was, _ := disk.Read(s, 0, len(s.Sectors))
		flushed, _ := disk.Do(s, barrier())
		crashed, _ := disk.Crash(flushed, r.keep(6))
		if b, err := disk.Read(crashed, 0, len(s.Sectors)); string(b) != string(was) || err != api.OK {
			t.Fatalf("P5.4: %s reads %s, behind a barrier and a crash %s, %v", short(s), letters(was), letters(b), err)
		}
	}
}

// TestCrashLeavesOldOrNew: each sector is what it was, or what a write that waited had for it.
func TestCrashLeavesOldOrNew(t *testing.T) {
	r := chanceOf(59)
	for range 3000 {
		s := r.state()
		keep := r.keep(len(s.Cache))
		after, err := disk.Crash(s, keep)
		if err != api.OK || len(after.Sectors) != len(s.Sectors) || len(after.Cache) != 0 {
			t.Fatalf("P5.5: Crash(%s, %v): %s, %v", short(s), keep, short(after), err)
		}
		for k, sector := range after.Sectors {
			found := string(sector) == string(s.Sectors[k])
			for _, w := range s.Cache {
				if j := k - w.Sector; j >= 0 && j < len(w.Data)/size {
					found = found || string(sector) == string(w.Data[j*size:(j+1)*size])
				}
			}
			if !found {
				t.Fatalf("P5.5: Crash(%s, %v): sector %d is %x", short(s), keep, k, sector)
			}
		}
	}
}

// TestExample: the chapter's.
func TestExample(t *testing.T) {
	s, _ := disk.New(3)
	s, _ = disk.Do(s, write(1, "xy"))
	s, err := disk.Crash(s, []int{1})
	b, readErr := disk.Read(s, 0, 3)
	if want := string(make([]byte, size)) + string(octets("x")) + string(make([]byte, size)); string(b) != want || err != api.OK || readErr != api.OK {
		t.Errorf("P5.2: example 1: %x, %v, %v", b, err, readErr)
	}
}
