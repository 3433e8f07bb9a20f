package lis_test

import (
	"math"
	"math/rand"
	"slices"
)

const most = 256 // numbers of a list

// lined are n numbers, each by its place.
func lined(n int, number func(place int) int) []int {
	l := make([]int, n)
	for place := range l {
		l[place] = number(place)
	}
	return l
}

func rising(n int) []int {
	return lined(n, func(place int) int { return place - 7 })
}

func falling(n int) []int {
	return lined(n, func(place int) int { return 7 - place })
}

func alike(n, number int) []int {
	return lined(n, func(int) int { return number })
}

// rise tells whether the numbers of l at those places rise, and the places, too; each is one of l.
func rise(l, places []int) bool {
	for i, place := range places {
		if place < 0 || place >= len(l) {
			return false
		}
		if i > 0 && (places[i-1] >= place || l[places[i-1]] >= l[place]) {
			return false
		}
	}
	return true
}

// others are the places of a list of n numbers that are not among these.
func others(n int, places []int) []int {
	var rest []int
	for place := range n {
		if !slices.Contains(places, place) {
			rest = append(rest, place)
		}
	}
	return rest
}

// better tells whether places are more than those of old, or as many and less: the first place first, then the next.
func better(places, old []int) bool {
	if len(places) != len(old) {
		return len(places) > len(old)
	}
	return slices.Compare(places, old) < 0
}

// byChoice tries every choice of places; l is short.
func byChoice(l []int) []int {
	var best []int
	for choice := range 1 << len(l) {
		var places []int
		for place := range l {
			if choice>>place&1 == 1 {
				places = append(places, place)
			}
		}
		if rise(l, places) && better(places, best) {
			best = places
		}
	}
	return best
}

// byPlace finds, from the last place on, the best that begins at each; l may be long.
func byPlace(l []int) []int {
	var best []int
	at := make([][]int, len(l))
	for place := len(l) - 1; place >= 0; place-- {
		var behind []int
		for next := place + 1; next < len(l); next++ {
			if l[next] > l[place] && better(at[next], behind) {
				behind = at[next]
			}
		}
		at[place] = append([]int{place}, behind...)
		if better(at[place], best) {
			best = at[place]
		}
	}
	return best
}

// nonRising tells into how few parts that do not rise l falls, each number put to the first part whose last is not less. A rising part has at most one number of each, so none is longer than that.
func nonRising(l []int) int {
	var lasts []int
	for _, number := range l {
		at := slices.IndexFunc(lasts, func(last int) bool { return last >= number })
		if at < 0 {
			lasts = append(lasts, number)
		} else {
			lasts[at] = number
		}
	}
	return len(lasts)
}

// allOf calls do with every list of n numbers from 0 to below kinds.
func allOf(n, kinds int, do func(l []int)) {
	l := make([]int, n)
	for {
		do(slices.Clone(l))
		at := 0
		for at < n && l[at] == kinds-1 {
			l[at] = 0
			at++
		}
		if at == n {
			return
		}
		l[at]++
	}
}

// anyNumbers are n numbers by chance, of so many kinds; now and then they are laid out to the ends of int.
func anyNumbers(r *rand.Rand, n, kinds int) []int {
	l := lined(n, func(int) int { return r.Intn(kinds) })
	switch r.Intn(4) {
	case 0:
		for place := range l {
			l[place] += math.MinInt
		}
	case 1:
		for place := range l {
			l[place] = math.MaxInt - l[place]
		}
	case 2:
		for place := range l {
			if l[place]%2 == 0 {
				l[place] = math.MinInt + l[place]
			}
		}
	}
	return l
}

// nearly are the places of n numbers, of which some were moved by chance: as kids are that a display has already.
func nearly(r *rand.Rand, n, moved int) []int {
	l := rising(n)
	for range moved {
		from, to := r.Intn(n), r.Intn(n)
		number := l[from]
		l = slices.Delete(l, from, from+1)
		l = slices.Insert(l, to, number)
	}
	return l
}
