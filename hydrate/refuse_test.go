package hydrate_test

import (
	"math"
	"strings"
	"testing"

	"fanlight/api"
	"fanlight/diff"
	"fanlight/dom"
	"fanlight/hydrate"
)

// badDisplays are displays that may not be, some of them with loose nodes, with a root's tree that is too deep, or with too many nodes.
func badDisplays() map[string]dom.State {
	spoilt := func(s dom.State, do func(s *dom.State)) dom.State {
		s = clone(s)
		do(&s)
		return s
	}
	small := build(part("p", words("x"), key("k", words("y"))))
	return map[string]dom.State{
		"nothing at all":              {},
		"Next below 0":                display(0, -1),
		"Next 2^31":                   display(0, lastNext+1),
		"the highest Next":            display(0, math.MaxInt),
		"1025 nodes":                  filled(small, most+1-4),
		"an ID that is Next":          spoilt(small, func(s *dom.State) { s.Next-- }),
		"an ID of 0":                  display(0, 2, text(0, 0, "x")),
		"an ID below 0":               display(0, 2, text(-3, 0, "x")),
		"IDs out of order":            display(0, 9, text(2, 0, "x"), text(1, 0, "x")),
		"an ID twice":                 display(0, 9, el(1, 0, "p"), el(1, 0, "p")),
		"a Root that is none":         spoilt(small, func(s *dom.State) { s.Root = 9 }),
		"a Root below 0":              spoilt(small, func(s *dom.State) { s.Root = -1 }),
		"a Root that is a text":       display(1, 2, text(1, 0, "x")),
		"a Root that has a Parent":    spoilt(small, func(s *dom.State) { s.Root = 3 }),
		"a kid that is none":          spoilt(small, func(s *dom.State) { s.Nodes[0].Kids[0] = 7 }),
		"a kid twice":                 spoilt(small, func(s *dom.State) { s.Nodes[0].Kids = []int{2, 3, 2} }),
		"a kid without that Parent":   display(1, 3, el(1, 0, "p", 2), text(2, 0, "x")),
		"a kid with another Parent":   spoilt(small, func(s *dom.State) { s.Nodes[1].Parent = 3 }),
		"a Parent that is none":       display(0, 3, text(1, 2, "x")),
		"a node within itself":        display(0, 2, el(1, 1, "p", 1)),
		"two within each other":       display(0, 3, el(1, 2, "p", 2), el(2, 1, "p", 1)),
		"a ring beside the root":      display(1, 4, el(1, 0, "p"), el(2, 3, "p", 3), el(3, 2, "p", 2)),
		"33 kids":                     tooWide(),
		"a loose text with a Key":     display(1, 3, el(1, 0, "p"), keyed(text(2, 0, "x"), "k")),
		"an element with a Text":      display(1, 2, dom.Node{ID: 1, Tag: "p", Text: "x"}),
		"a loose one's long Text":     display(0, 2, text(1, 0, strings.Repeat("x", 129))),
		"Names out of order":          display(1, 2, with(el(1, 0, "p"), "b", "", "a", "")),
		"a Tag":                       display(1, 2, el(1, 0, "P")),
		"a loose one's Tag":           filled(display(0, 2, el(1, 0, "P")), 3),
		"9 deep, and a Tag":           spoilt(deep(9), func(s *dom.State) { s.Nodes[8].Tag = "P" }),
		"1024 deep, and Next too low": spoilt(deep(most), func(s *dom.State) { s.Next = 5 }),
		"1024 nodes, and a long Key":  spoilt(crowd(most), func(s *dom.State) { s.Nodes[0].Key = strings.Repeat("k", 17) }),
	}
}

func tooWide() dom.State {
	s := display(1, fan+3, el(1, 0, "p"))
	for i := range fan + 1 {
		s.Nodes[0].Kids = append(s.Nodes[0].Kids, i+2)
		s.Nodes = append(s.Nodes, text(i+2, 1, ""))
	}
	return s
}

type badTree struct {
	tree api.Tree
	err  api.Errno
}

// badTrees are trees that may not be.
func badTrees() map[string]badTree {
	tooMany := great()
	tooMany.Kids = append(tooMany.Kids, words(""))
	itself := part("p", words(""))
	itself.Kids[0] = itself
	return map[string]badTree{
		"no tree at all":      {api.Tree{}, api.ErrState},
		"a text":              {words("x"), api.ErrState},
		"9 deep":              {down(deepest+1, part("p")), api.ErrDeep},
		"within itself":       {itself, api.ErrDeep},
		"257 nodes":           {tooMany, api.ErrCount},
		"17 kids":             {part("p", make([]api.Tree, treeFan+1)...), api.ErrState},
		"a Tag":               {part("p", part("P")), api.ErrState},
		"a long Key":          {part("p", key(strings.Repeat("k", 17))), api.ErrState},
		"a text with a Key":   {part("p", api.Tree{Key: "k", Text: "x"}), api.ErrState},
		"Names out of order":  {having(part("p"), "b", "", "a", ""), api.ErrState},
		"a Key twice":         {part("p", key("k"), key("k")), api.ErrTwice},
		"a Key twice, deeper": {part("p", part("p", part("p", key("k"), words(""), key("k")))), api.ErrTwice},
	}
}

// mustRefuse holds that all three calls answer that error and beside it nothing.
func mustRefuse(t *testing.T, name string, s dom.State, x api.Tree, want api.Errno) {
	t.Helper()
	if l, err := hydrate.Patches(s, x); len(l) != 0 || err != want {
		t.Errorf("P13.1, P4: Patches, %s: %.2000s, %v, want %v", name, tellPatches(l), err, want)
	}
	if u, err := hydrate.Hydrate(s, x); tell(u) != "root 0 next 0" || err != want {
		t.Errorf("P13.1, P4: Hydrate, %s: %.2000s, %v, want %v", name, tell(u), err, want)
	}
	if l, err := hydrate.Kept(s, x); len(l) != 0 || err != want {
		t.Errorf("P13.1, P4: Kept, %s: %v, %v, want %v", name, l, err, want)
	}
}

// TestDisplayThatMayNotBe: its error goes ahead of the tree's.
func TestDisplayThatMayNotBe(t *testing.T) {
	for name, s := range badDisplays() {
		if dom.Check(s) != api.ErrState {
			t.Fatalf("the tests' own display may be: %s", name)
		}
		if l, err := hydrate.Loose(s); len(l) != 0 || err != api.ErrState {
			t.Errorf("P13.1, P4: Loose, %s: %v, %v", name, l, err)
		}
		mustRefuse(t, name, s, part("p"), api.ErrState)
		mustRefuse(t, name+", and a great tree", s, great(), api.ErrState)
		for other, bad := range badTrees() {
			mustRefuse(t, name+", and a tree: "+other, s, bad.tree, api.ErrState)
		}
	}
}

// TestTreeThatMayNotBe: its error goes ahead of what the display wants of room or has of depth.
func TestTreeThatMayNotBe(t *testing.T) {
	for display, s := range map[string]dom.State{
		"no nodes": dom.New(), "a root": build(part("p")), "loose ones": filled(build(part("p")), 3), "no Root": filled(dom.New(), 3),
		"9 deep": deep(9), "1024 deep": deep(most), "1024 nodes": crowd(most), "1024 loose ones": filled(dom.New(), most),
		"the highest Next": {Next: lastNext}, "9 deep and 1024 nodes": filled(deep(9), most-9), "a loose tree 9 deep": beside(build(part("p")), deep(9)),
	} {
		for name, bad := range badTrees() {
			mustRefuse(t, name+", and a display: "+display, s, bad.tree, bad.err)
		}
	}
}

// TestRoomForNodes: what is taken away first makes room; of the root's tree 1024 nodes at some time are not too many, 1025 are.
func TestRoomForNodes(t *testing.T) {
	wider := part("p", part("b"), key("n"))
	for name, s := range map[string]dom.State{
		"1023 nodes":                        crowd(most - 1),
		"1023 nodes, and a loose one":       filled(crowd(most-1), 1),
		"900 nodes, and 124 loose ones":     filled(crowd(900), most-900),
		"900 nodes, and 124 in a loose one": beside(crowd(900), crowd(most-900)),
	} {
		mustHydrate(t, "room for one, "+name, s, wider)
	}
	if _, err := diff.Diff(filled(crowd(most-1), 1), wider); err != api.ErrFull {
		t.Fatalf("the tests' own display has room beside its loose node: %v", err)
	}
	mustRefuse(t, "no room for one", crowd(most), wider, api.ErrFull)
	twoMore := part("p", part("b"), key("n"), key("m"))
	mustHydrate(t, "room for two", filled(crowd(most-2), 2), twoMore)
	mustRefuse(t, "no room for the second", crowd(most-1), twoMore, api.ErrFull)
	mustRefuse(t, "no room for the second, and a loose one", filled(crowd(most-1), 1), twoMore, api.ErrFull)
	mustHydrate(t, "room for 256", filled(crowd(most-255), 255), great())
	mustHydrate(t, "1024 nodes, of which some go ahead of the new one", crowd(most), part("p", key("n")))
	mustHydrate(t, "1024 nodes, another root", crowd(most), part("b", words("x")))
	mustHydrate(t, "1024 loose nodes", filled(dom.New(), most), great())
	mustHydrate(t, "1024 nodes, no Root", display(0, most+1, crowd(most).Nodes...), great())
	mustHydrate(t, "1024 deep", deep(most), great())
	mustHydrate(t, "9 deep and full, but of loose ones", filled(deep(9), most-9), great())
	mustHydrate(t, "1024 nodes, 9 deep", deepCrowd(), part("p", part("b"), key("n")))
}

// deepCrowd is a root's tree of 1024 nodes that is 9 deep.
func deepCrowd() dom.State {
	s := crowd(most - 5)
	for range 5 {
		last := &s.Nodes[len(s.Nodes)-1]
		*last = el(last.ID, last.Parent, "u", s.Next)
		s.Nodes = append(s.Nodes, text(s.Next, last.ID, ""))
		s.Next++
	}
	return s
}

// TestRoomForNumbers: Next may reach 2^31 - 1, and not pass it; the numbers of what is taken away are not given again.
func TestRoomForNumbers(t *testing.T) {
	small := build(part("p", words("x"), key("a", words("y"))))
	for _, c := range []struct {
		name    string
		state   dom.State
		tree    api.Tree
		created int
	}{
		{"no nodes", dom.New(), part("p"), 1},
		{"no nodes, to 256", dom.New(), great(), 256},
		{"the same tree", small, part("p", words("x"), key("a", words("y"))), 0},
		{"the same tree beside loose ones", filled(small, 3), part("p", words("x"), key("a", words("y"))), 0},
		{"all gone", filled(small, 3), part("p"), 0},
		{"one kid for another", filled(small, 3), part("p", words("x"), key("b")), 1},
		{"another root", filled(small, 3), part("b", words("x")), 2},
		{"no Root", display(0, 5, small.Nodes...), part("p", words("x")), 2},
		{"8 deep", deep(8), part("p"), 0},
		{"9 deep", deep(9), part("p"), 1},
		{"9 deep beside loose ones, to 8 deep", filled(deep(9), 3), down(deepest, part("p")), deepest},
		{"9 deep, but loose", beside(small, deep(9)), part("p"), 0},
	} {
		s := clone(c.state)
		s.Next = lastNext - c.created
		mustHydrate(t, c.name+", the highest Next", s, c.tree)
		if u, err := hydrate.Hydrate(s, c.tree); u.Next != lastNext || err != api.OK {
			t.Errorf("P13.1: Hydrate, %s, the highest Next: Next is %d, %v", c.name, u.Next, err)
		}
		for s.Next++; s.Next <= lastNext && s.Next <= lastNext-c.created+3; s.Next++ {
			mustRefuse(t, c.name+", Next would pass 2^31 - 1", s, c.tree, api.ErrFull)
		}
		if c.created > 0 {
			s.Next = lastNext
			mustRefuse(t, c.name+", no number is left", s, c.tree, api.ErrFull)
		}
	}
	last := display(0, lastNext, el(lastNext-2, 0, "p", lastNext-1), text(lastNext-1, lastNext-2, "x"))
	mustRefuse(t, "the last numbers are loose", last, part("p"), api.ErrFull)
	last.Root = lastNext - 2
	mustHydrate(t, "the last numbers are the root's", last, part("p", words("y")))
}
