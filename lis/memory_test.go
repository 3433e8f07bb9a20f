package lis_test

import (
	"math/rand"
	"slices"
	"sync"
	"testing"
	"unsafe"

	"fanlight/api"
	"fanlight/lis"
)

// span is memory, from its first octet to behind its last.
type span struct {
	from, to uintptr
}

// spanOf is the memory of l, to its whole capacity.
func spanOf(l []int) span {
	from := uintptr(unsafe.Pointer(unsafe.SliceData(l)))
	return span{from, from + uintptr(cap(l))*unsafe.Sizeof(0)}
}

// overlap tells whether two of the lists lie in one memory.
func overlap(lists ...[]int) bool {
	var spans []span
	for _, l := range lists {
		if cap(l) > 0 {
			spans = append(spans, spanOf(l))
		}
	}
	slices.SortFunc(spans, func(a, b span) int { return int(a.from) - int(b.from) })
	for i := 1; i < len(spans); i++ {
		if spans[i].from < spans[i-1].to {
			return true
		}
	}
	return false
}

func scribble(l []int) {
	for i := range l[:cap(l)] {
		l[:cap(l)][i] = -9
	}
}

// given are lists of all sizes, those that are refused among them.
func given() [][]int {
	r := rand.New(rand.NewSource(1104))
	l := [][]int{nil, {}, {1}, {3, 1, 2}, rising(most), falling(most), alike(most, 3), rising(most + 1), falling(1000)}
	for n := 2; n <= most; n += 1 + n/4 {
		l = append(l, rising(n), falling(n), anyNumbers(r, n, 1+n), nearly(r, n, 3))
	}
	return l
}

func TestNothingIsSharedOrChanged(t *testing.T) {
	for _, numbers := range given() {
		// With room behind, into which a careless call could write.
		l := append(slices.Clone(numbers), -77, -78)[:len(numbers)]
		was := slices.Clone(l[:cap(l)])
		places, _ := lis.Longest(l)
		again, _ := lis.Longest(l)
		moves, _ := lis.Moves(l)
		movesAgain, _ := lis.Moves(l)
		length, _ := lis.Length(l)
		if overlap(l, places, again, moves, movesAgain) {
			t.Fatalf("P11.3: answers of %v share memory", numbers)
		}
		if !slices.Equal(l[:cap(l)], was) {
			t.Fatalf("P11.3: %v was changed", numbers)
		}
		first, firstMoves := slices.Clone(places), slices.Clone(moves)
		scribble(l)
		scribble(again)
		scribble(movesAgain)
		if !slices.Equal(places, first) || !slices.Equal(moves, firstMoves) {
			t.Fatalf("P11.3: a change elsewhere has changed an answer of %v", numbers)
		}
		if n, _ := lis.Length(numbers); n != length {
			t.Fatalf("P11.3: Length of %v behind changes elsewhere: %d, not %d", numbers, n, length)
		}
		if x, _ := lis.Longest(numbers); !slices.Equal(x, first) {
			t.Fatalf("P11.3: Longest of %v behind changes elsewhere: %v, not %v", numbers, x, first)
		}
	}
}

// TestAnswersAreOnceForAll: P3: what is answered hangs on the numbers alone, not on calls ahead nor on those at the same time.
func TestAnswersAreOnceForAll(t *testing.T) {
	l := given()
	var want [][2][]int
	for _, numbers := range l {
		places, _ := lis.Longest(numbers)
		moves, _ := lis.Moves(numbers)
		want = append(want, [2][]int{places, moves})
	}
	var all sync.WaitGroup
	for range 4 {
		all.Go(func() {
			for i, numbers := range l {
				places, err := lis.Longest(numbers)
				moves, _ := lis.Moves(numbers)
				n, _ := lis.Length(numbers)
				if !slices.Equal(places, want[i][0]) || !slices.Equal(moves, want[i][1]) || n != len(places) {
					t.Errorf("P3: the answers of %v are not the same twice", numbers)
				}
				if (err != api.OK) != (len(numbers) > most) {
					t.Errorf("P3: the error of %d numbers: %v", len(numbers), err)
				}
			}
		})
	}
	all.Wait()
}
