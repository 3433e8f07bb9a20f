package lis_test

import (
	"math"
	"math/rand"
	"slices"
	"testing"

	"fanlight/api"
	"fanlight/lis"
)

// must asks for what all three calls tell of l, whose least longest rising part is at those places.
func must(t *testing.T, name string, l, want []int) {
	t.Helper()
	places, err := lis.Longest(l)
	if !slices.Equal(places, want) || err != api.OK {
		t.Fatalf("P11.1: Longest of %s (%v): %v, %v, want %v", name, l, places, err, want)
	}
	n, err := lis.Length(l)
	if n != len(want) || err != api.OK {
		t.Fatalf("P11.1: Length of %s (%v): %d, %v, want %d", name, l, n, err, len(want))
	}
	moves, err := lis.Moves(l)
	if !slices.Equal(moves, others(len(l), want)) || err != api.OK {
		t.Fatalf("P11.1: Moves of %s (%v): %v, %v, want %v", name, l, moves, err, others(len(l), want))
	}
	mustBeAll(t, name, l, places, moves)
}

// mustBeAll holds what follows: the part rises, no longer one does, and the places of both are all, each once, rising.
func mustBeAll(t *testing.T, name string, l, places, moves []int) {
	t.Helper()
	if !rise(l, places) {
		t.Fatalf("P11.2: Longest of %s (%v) does not rise: %v", name, l, places)
	}
	if n := nonRising(l); len(places) != n {
		t.Fatalf("P11.2: Longest of %s (%v): %v, but the longest has %d", name, l, places, n)
	}
	if !slices.IsSorted(moves) {
		t.Fatalf("P11.1: Moves of %s (%v) are not rising: %v", name, l, moves)
	}
	all := slices.Sorted(slices.Values(slices.Concat(places, moves)))
	if !slices.Equal(all, lined(len(l), func(place int) int { return place })) {
		t.Fatalf("P11.1: Longest and Moves of %s (%v) are not all places, each once: %v, %v", name, l, places, moves)
	}
}

func TestNamedLists(t *testing.T) {
	for name, c := range map[string]struct{ l, want []int }{
		"nil":                                    {nil, nil},
		"no numbers":                             {[]int{}, nil},
		"one":                                    {[]int{5}, []int{0}},
		"one, 0":                                 {[]int{0}, []int{0}},
		"one below 0":                            {[]int{-5}, []int{0}},
		"the example's first":                    {[]int{3, 1, 2}, []int{1, 2}},
		"the example's second":                   {[]int{2, 1}, []int{0}},
		"two that rise":                          {[]int{1, 2}, []int{0, 1}},
		"two alike":                              {[]int{1, 1}, []int{0}},
		"three alike":                            {[]int{4, 4, 4}, []int{0}},
		"alike at the beginning":                 {[]int{1, 1, 2}, []int{0, 2}},
		"alike at the end":                       {[]int{1, 2, 2}, []int{0, 1}},
		"alike in the middle":                    {[]int{1, 2, 2, 3}, []int{0, 1, 3}},
		"alike apart":                            {[]int{1, 2, 1}, []int{0, 1}},
		"alike apart, twice":                     {[]int{1, 2, 1, 2}, []int{0, 1}},
		"alike apart, a greater one behind":      {[]int{2, 1, 2, 3}, []int{1, 2, 3}},
		"alike apart, less between":              {[]int{2, 1, 2}, []int{1, 2}},
		"all twice":                              {[]int{1, 1, 2, 2, 3, 3}, []int{0, 2, 4}},
		"only falling":                           {[]int{5, 4, 3, 2}, []int{0}},
		"falling, with alike ones":               {[]int{5, 5, 3, 3}, []int{0}},
		"only rising":                            {[]int{2, 3, 4, 5}, []int{0, 1, 2, 3}},
		"rising with gaps":                       {[]int{-9, 0, 100, 1 << 40}, []int{0, 1, 2, 3}},
		"the least first place, not the last":    {[]int{2, 1, 3}, []int{0, 2}},
		"the least first place, less numbers on": {[]int{5, 6, 1, 2}, []int{0, 1}},
		"the least second place":                 {[]int{1, 3, 2, 4}, []int{0, 1, 3}},
		"the least third place":                  {[]int{1, 2, 4, 3}, []int{0, 1, 2}},
		"the least places, from the middle on":   {[]int{9, 3, 1, 5, 4, 7, 6}, []int{1, 3, 5}},
		"many of one length":                     {[]int{3, 2, 1, 6, 5, 4, 9, 8, 7}, []int{0, 3, 6}},
		"a first that leads nowhere":             {[]int{9, 1, 2, 3}, []int{1, 2, 3}},
		"a first that leads less far":            {[]int{5, 1, 6, 2, 3}, []int{1, 3, 4}},
		"a second that leads less far":           {[]int{1, 8, 2, 9, 3, 4}, []int{0, 2, 4, 5}},
		"a last that is too small":               {[]int{1, 2, 3, 0}, []int{0, 1, 2}},
		"two ends as good":                       {[]int{1, 5, 2, 6, 3}, []int{0, 1, 3}},
		"two runs, the second longer":            {[]int{7, 8, 1, 2, 3}, []int{2, 3, 4}},
		"two runs, the first longer":             {[]int{7, 8, 9, 1, 2}, []int{0, 1, 2}},
		"the last moved to the front":            {[]int{2, 0, 1}, []int{1, 2}},
		"the first moved to the end":             {[]int{1, 2, 3, 0}, []int{0, 1, 2}},
		"below and above 0":                      {[]int{0, -2, -1, 1, -3, 2}, []int{1, 2, 3, 5}},
	} {
		must(t, name, c.l, c.want)
	}
}

// TestGreatNumbers: the ends of int, of which no difference may be taken, nor one added or taken away.
func TestGreatNumbers(t *testing.T) {
	const least, greatest = math.MinInt, math.MaxInt
	for name, c := range map[string]struct{ l, want []int }{
		"the least":                         {[]int{least}, []int{0}},
		"the greatest":                      {[]int{greatest}, []int{0}},
		"the least, the greatest":           {[]int{least, greatest}, []int{0, 1}},
		"the greatest, the least":           {[]int{greatest, least}, []int{0}},
		"the least twice":                   {[]int{least, least}, []int{0}},
		"the greatest twice":                {[]int{greatest, greatest}, []int{0}},
		"around the least":                  {[]int{least, least + 1, least}, []int{0, 1}},
		"around the greatest":               {[]int{greatest, greatest - 1, greatest}, []int{1, 2}},
		"from the least to the greatest":    {[]int{least, -1, 0, 1, greatest}, []int{0, 1, 2, 3, 4}},
		"from the greatest to the least":    {[]int{greatest, 1, 0, -1, least}, []int{0}},
		"0, the least, the greatest":        {[]int{0, least, greatest}, []int{0, 2}},
		"0, the greatest, the least":        {[]int{0, greatest, least}, []int{0, 1}},
		"the ends by turns":                 {[]int{least, greatest, least, greatest}, []int{0, 1}},
		"the ends by turns, greatest first": {[]int{greatest, least, greatest, least}, []int{1, 2}},
		"apart by more than an int":         {[]int{1 << 62, -(1 << 62) - 1, 1<<62 + 1}, []int{0, 2}},
		"a half and a half":                 {[]int{-(1 << 62), 1 << 62, -(1 << 62), 1 << 62}, []int{0, 1}},
		"one but in the lowest bits":        {[]int{1<<53 + 1, 1 << 53, 1<<53 + 2}, []int{0, 2}},
		"one but in the lowest bit, rising": {[]int{1<<62 - 1, 1 << 62, 1<<62 + 1}, []int{0, 1, 2}},
		"one in the lower 32 bits, rising":  {[]int{1, 1<<32 + 1, 1<<33 + 1}, []int{0, 1, 2}},
	} {
		must(t, name, c.l, c.want)
	}
}

func TestLongLists(t *testing.T) {
	for _, n := range []int{2, 15, 16, 17, 31, 32, 33, 100, 254, 255, most} {
		must(t, "a rising list", rising(n), lined(n, func(place int) int { return place }))
		must(t, "a falling list", falling(n), []int{0})
		must(t, "a list of one number", alike(n, 7), []int{0})
		must(t, "a list of the least number", alike(n, math.MinInt), []int{0})
		must(t, "a list of the greatest number", alike(n, math.MaxInt), []int{0})
		pairs := lined(n, func(place int) int { return place / 2 })
		must(t, "a list of pairs", pairs, lined((n+1)/2, func(i int) int { return 2 * i }))
		swapped := lined(n, func(place int) int { return place ^ 1 })
		must(t, "a list of swapped pairs", swapped, byPlace(swapped))
	}
}

// TestTooMany: 257 numbers are too many, whatever they are; beside the error there is nothing.
func TestTooMany(t *testing.T) {
	for _, n := range []int{most + 1, most + 2, 1000, 1 << 16} {
		for _, l := range [][]int{rising(n), falling(n), alike(n, 0)} {
			if places, err := lis.Longest(l); len(places) != 0 || err != api.ErrCount {
				t.Errorf("P11.1, P4: Longest of %d numbers: %d places, %v", n, len(places), err)
			}
			if length, err := lis.Length(l); length != 0 || err != api.ErrCount {
				t.Errorf("P11.1, P4: Length of %d numbers: %d, %v", n, length, err)
			}
			if moves, err := lis.Moves(l); len(moves) != 0 || err != api.ErrCount {
				t.Errorf("P11.1, P4: Moves of %d numbers: %d places, %v", n, len(moves), err)
			}
		}
	}
}

// TestRoomBehind: the numbers of a list are counted, not the room behind it.
func TestRoomBehind(t *testing.T) {
	room := rising(2 * most)
	must(t, "256 numbers, room behind", room[:most], lined(most, func(place int) int { return place }))
	must(t, "no numbers, room behind", room[:0], nil)
	must(t, "two numbers, room behind", room[5:7], []int{0, 1})
}

// TestShortListsByChoice: every list of a few numbers, held against every choice of places.
func TestShortListsByChoice(t *testing.T) {
	for n, kinds := range []int{1, 8, 8, 8, 7, 6, 6, 4, 3} {
		allOf(n, kinds, func(l []int) {
			must(t, "a short list", l, byChoice(l))
		})
	}
}

func TestChoicesByChance(t *testing.T) {
	r := rand.New(rand.NewSource(1101))
	for range 2000 {
		l := anyNumbers(r, 8+r.Intn(5), 2+r.Intn(14))
		must(t, "a list by chance", l, byChoice(l))
	}
	for range 200 {
		l := rand.New(rand.NewSource(r.Int63())).Perm(9 + r.Intn(4))
		must(t, "an order by chance", l, byChoice(l))
	}
}

func TestLongListsByChance(t *testing.T) {
	r := rand.New(rand.NewSource(1102))
	for _, n := range []int{20, 60, 128, 255, most} {
		for _, kinds := range []int{2, 3, 10, 50, 300, 1 << 40} {
			for range 12 {
				l := anyNumbers(r, n, kinds)
				must(t, "a long list by chance", l, byPlace(l))
			}
		}
		for _, moved := range []int{1, 2, 5, 30} {
			for range 12 {
				l := nearly(r, n, moved)
				must(t, "a list of which some were moved", l, byPlace(l))
			}
		}
	}
}

// TestFewMoves: a list of which k numbers were moved has no more than k places to move.
func TestFewMoves(t *testing.T) {
	r := rand.New(rand.NewSource(1103))
	for range 300 {
		moved := r.Intn(6)
		l := nearly(r, 6+r.Intn(most-5), moved)
		if moves, err := lis.Moves(l); len(moves) > moved || err != api.OK {
			t.Fatalf("P11.2: Moves of a list of which %d were moved (%v): %v, %v", moved, l, moves, err)
		}
	}
}
