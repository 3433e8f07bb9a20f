package dom_test

import (
	"math"
	"strings"
	"testing"

	"fanlight/api"
	"fanlight/dom"
)

func TestNew(t *testing.T) {
	s := dom.New()
	if len(s.Nodes) != 0 || s.Root != 0 || s.Next != 1 {
		t.Errorf("P10.1: New: %s", tell(s))
	}
	if err := dom.Check(s); err != api.OK {
		t.Errorf("P10.1: Check of New: %v", err)
	}
}

// may are displays that may be: the edges, and some by chance.
func may() map[string]dom.State {
	l := map[string]dom.State{
		"no nodes":                              display(0, 1),
		"no nodes, the highest Next":            display(0, lastNext),
		"a text alone":                          display(0, 2, text(1, 0, "")),
		"an element alone, no Root":             display(0, 2, el(1, 0, "p")),
		"a root alone":                          display(1, 2, el(1, 0, "p")),
		"the highest ID":                        display(lastNext-1, lastNext, el(lastNext-1, 0, "p")),
		"IDs with gaps":                         display(9, 1000, text(3, 9, "x"), el(9, 0, "p", 700, 3), text(700, 9, "y")),
		"a parent with a higher ID":             display(3, 4, text(1, 2, "x"), el(2, 3, "p", 1), el(3, 0, "p", 2)),
		"a sample":                              sample(),
		"loose ones, no Root":                   display(0, 20, sample().Nodes...),
		"another Root":                          display(8, 20, sample().Nodes...),
		"1023 nodes":                            lined(most - 1),
		"1024 nodes":                            lined(most),
		"1024 nodes in a tree":                  wide(),
		"31 kids":                               parted(fan - 1),
		"32 kids":                               parted(fan),
		"16 attributes":                         display(1, 2, manyAttrs(el(1, 0, "p"), named)),
		"8 within each other":                   deep(deepest),
		"9 within each other":                   deep(deepest + 1),
		"1024 within each other":                deep(most),
		"kids with one Key":                     display(1, 4, el(1, 0, "p", 2, 3), keyed(el(2, 1, "b"), "k"), keyed(el(3, 1, "b"), "k")),
		"a kid with its parent's Key":           display(1, 3, keyed(el(1, 0, "p", 2), "k"), keyed(el(2, 1, "b"), "k")),
		"a Key of 16 octets":                    display(0, 2, keyed(el(1, 0, strings.Repeat("p", longest)), strings.Repeat("\xff", longest))),
		"a Text and a Value of 128 octets":      display(0, 3, text(1, 0, strings.Repeat("x", written)), with(el(2, 0, "p"), "a", strings.Repeat("x", written))),
		"Names that rise":                       display(0, 2, with(el(1, 0, "p"), "a", "2", "aa", "1", "b", "", strings.Repeat("z", longest), "")),
		"32 kids with one Key, each with a kid": twins(fan),
	}
	r := chanceOf(10)
	for i := range 60 {
		l["by chance "+string(rune('0'+i))] = r.display(1 + r.Intn(40))
	}
	return l
}

// twins is a root with n kids of one Key, each with one of that Key in it.
func twins(n int) dom.State {
	s := display(1, 2*n+2, el(1, 0, "p"))
	for i := range n {
		id := 2 + 2*i
		s.Nodes[0].Kids = append(s.Nodes[0].Kids, id)
		s.Nodes = append(s.Nodes, keyed(el(id, 1, "b", id+1), "k"), keyed(el(id+1, id, "b"), "k"))
	}
	return s
}

// change is the sample with a change.
func change(do func(s *dom.State)) dom.State {
	s := sample()
	do(&s)
	return s
}

// mayNot are displays that may not be, each for one cause.
func mayNot() map[string]dom.State {
	l := map[string]dom.State{
		"nothing at all":                             {},
		"Next 0":                                     display(0, 0),
		"Next -1":                                    display(0, -1),
		"the lowest Next":                            display(0, math.MinInt),
		"Next 2^31":                                  display(0, lastNext+1),
		"Next 2^31, and a node":                      display(1, lastNext+1, el(1, 0, "p")),
		"the highest Next of all":                    display(0, math.MaxInt),
		"1025 nodes":                                 lined(most + 1),
		"5000 nodes":                                 lined(5000),
		"an ID of 0":                                 display(0, 2, text(0, 0, "x")),
		"an ID of 0 that has itself as a kid":        display(0, 2, el(0, 0, "p", 0)),
		"an ID of -1":                                display(0, 2, text(-1, 0, "x")),
		"an ID of 0 ahead of others":                 display(0, 2, text(0, 0, "x"), text(1, 0, "y")),
		"IDs out of order":                           display(0, 4, text(2, 0, "x"), text(1, 0, "x")),
		"IDs out of order at last":                   display(0, 9, text(1, 0, "x"), text(5, 0, "x"), text(4, 0, "x")),
		"an ID twice":                                display(0, 4, text(1, 0, "x"), text(1, 0, "x")),
		"an ID twice at last":                        display(0, 4, text(1, 0, "x"), text(2, 0, "x"), text(2, 0, "y")),
		"an ID that is Next":                         display(0, 2, text(1, 0, "x"), text(2, 0, "x")),
		"an ID above Next":                           display(0, 2, text(7, 0, "x")),
		"a node, and Next 1":                         display(0, 1, text(1, 0, "x")),
		"an ID of 2^31 - 1":                          display(0, lastNext, text(lastNext, 0, "x")),
		"33 kids":                                    parted(fan + 1),
		"300 kids":                                   parted(300),
		"a text with a text in it":                   display(0, 3, dom.Node{ID: 1, Kids: []int{2}}, text(2, 1, "x")),
		"a text with an element in it":               display(0, 3, dom.Node{ID: 1, Text: "x", Kids: []int{2}}, el(2, 1, "b")),
		"a text with a kid that is no node":          display(0, 3, dom.Node{ID: 1, Kids: []int{2}}),
		"a kid that is no node":                      change(func(s *dom.State) { node(*s, 12).Kids = []int{10} }),
		"a kid of 0":                                 change(func(s *dom.State) { node(*s, 12).Kids = []int{0} }),
		"a kid of -1":                                change(func(s *dom.State) { node(*s, 12).Kids = []int{-1} }),
		"a kid of Next":                              change(func(s *dom.State) { node(*s, 12).Kids = []int{20} }),
		"a kid of the highest number":                change(func(s *dom.State) { node(*s, 12).Kids = []int{math.MaxInt} }),
		"a kid among others that is no node":         change(func(s *dom.State) { node(*s, 1).Kids = []int{2, 3, 10, 4} }),
		"a kid twice":                                change(func(s *dom.State) { node(*s, 1).Kids = []int{2, 3, 4, 2} }),
		"a kid twice side by side":                   change(func(s *dom.State) { node(*s, 8).Kids = []int{9, 9} }),
		"a kid with another Parent":                  change(func(s *dom.State) { node(*s, 12).Kids = []int{9} }),
		"a kid that hangs nowhere":                   change(func(s *dom.State) { node(*s, 12).Kids = []int{11} }),
		"a kid in two, with the second as Parent":    change(func(s *dom.State) { node(*s, 12).Kids, node(*s, 9).Parent = []int{9}, 12 }),
		"the Root as a kid":                          change(func(s *dom.State) { node(*s, 12).Kids = []int{1} }),
		"a Parent that is no node":                   change(func(s *dom.State) { node(*s, 11).Parent = 10 }),
		"a Parent of -1":                             change(func(s *dom.State) { node(*s, 11).Parent = -1 }),
		"a Parent of Next":                           change(func(s *dom.State) { node(*s, 11).Parent = 20 }),
		"a Parent of the lowest number":              change(func(s *dom.State) { node(*s, 11).Parent = math.MinInt }),
		"a Parent that has no kids":                  change(func(s *dom.State) { node(*s, 11).Parent = 12 }),
		"a Parent that has other kids":               change(func(s *dom.State) { node(*s, 11).Parent = 8 }),
		"a Parent that is a text":                    change(func(s *dom.State) { node(*s, 12).Parent = 11 }),
		"a Parent that is itself":                    change(func(s *dom.State) { node(*s, 12).Parent = 12 }),
		"a Root that is no node":                     change(func(s *dom.State) { s.Root = 10 }),
		"a Root of -1":                               change(func(s *dom.State) { s.Root = -1 }),
		"a Root of Next":                             change(func(s *dom.State) { s.Root = 20 }),
		"a Root of the highest number":               change(func(s *dom.State) { s.Root = math.MaxInt }),
		"a Root, and no nodes":                       display(1, 2),
		"a Root that is a text":                      change(func(s *dom.State) { s.Root = 11 }),
		"a Root that has a Parent":                   change(func(s *dom.State) { s.Root = 3 }),
		"a Root that is a text and has a Parent":     change(func(s *dom.State) { s.Root = 9 }),
		"a node within itself, behind it a Root":     ring(1, 2),
		"a node within itself, no Root":              ring(1, 0),
		"two within each other, a Root":              ring(2, 3),
		"two within each other, no Root":             ring(2, 0),
		"two within each other, one is the Root":     ring(2, 1),
		"three within each other, a Root":            ring(3, 4),
		"three within each other, no Root":           ring(3, 0),
		"a ring of 1022":                             ring(most-2, 0),
		"a ring of 1022, and a Root":                 ring(most-2, most-1),
		"only a ring of 1024":                        onlyRing(most),
		"a node within itself, with others within":   display(0, 4, el(1, 1, "p", 2, 1), el(2, 1, "p", 3), text(3, 2, "x")),
		"a ring with others within, ahead of it":     display(1, 7, el(1, 0, "p"), text(2, 3, "x"), el(3, 5, "p", 2), el(4, 5, "p", 5), el(5, 4, "p", 3, 4), text(6, 0, "x")),
		"a ring of three in an order of its own":     display(1, 5, el(1, 0, "p"), el(2, 4, "p", 3), el(3, 2, "p", 4), el(4, 3, "p", 2)),
		"a ring behind a chain that hangs on no one": display(1, 6, el(1, 0, "p", 2), el(2, 1, "p", 3), el(3, 2, "p"), el(4, 5, "p", 5), el(5, 4, "p", 4)),
	}
	for name, n := range badNodes() {
		l[name] = display(0, 2, n)
		behind := sample()
		n.ID = 13
		behind.Nodes = append(behind.Nodes, n)
		l[name+", behind others"] = behind
	}
	return l
}

func onlyRing(n int) dom.State {
	s := ring(n, 0)
	s.Nodes = s.Nodes[:n]
	return s
}

func TestCheckOfWhatMayBe(t *testing.T) {
	for name, s := range may() {
		if !mayBe(s) {
			t.Fatalf("the tests' own display may not be: %s", name)
		}
		for _, x := range []dom.State{s, bare(s), full(s)} {
			if err := dom.Check(x); err != api.OK {
				t.Errorf("P10.1: Check, %s: %v", name, err)
			}
		}
	}
}

// TestCheckOfWhatMayNotBe: and every other call answers that error and nothing else, whatever else is asked.
func TestCheckOfWhatMayNotBe(t *testing.T) {
	for name, s := range mayNot() {
		if mayBe(s) {
			t.Fatalf("the tests' own display may be: %s", name)
		}
		for _, x := range []dom.State{s, bare(s), full(s)} {
			if err := dom.Check(x); err != api.ErrState {
				t.Errorf("P10.1: Check, %s: %v", name, err)
			}
			mustRefuse(t, name, x)
		}
	}
}

func mustRefuse(t *testing.T, name string, s dom.State) {
	t.Helper()
	const nothing = "root 0 next 0"
	for what := -1; what <= 8; what++ {
		for _, id := range []int{0, 1, 2, s.Next} {
			p := dom.Patch{What: what, ID: id, Parent: 1, Tag: "p", Name: "a"}
			if x, err := dom.Apply(s, p); tell(x) != nothing || err != api.ErrState {
				t.Errorf("P10.1, P4: Apply(%+v), %s: %s, %v", p, name, tell(x), err)
			}
			if x, n, err := dom.Run(s, []dom.Patch{p, p}); tell(x) != nothing || n != 0 || err != api.ErrState {
				t.Errorf("P10.2, P4: Run(%+v), %s: %s, %d, %v", p, name, tell(x), n, err)
			}
		}
	}
	if x, n, err := dom.Run(s, nil); tell(x) != nothing || n != 0 || err != api.ErrState {
		t.Errorf("P10.2, P4: Run of no patches, %s: %s, %d, %v", name, tell(x), n, err)
	}
	if x, err := dom.Tree(s); tellTree(x) != tellTree(api.Tree{}) || err != api.ErrState {
		t.Errorf("P10.2, P4: Tree, %s: %s, %v", name, tellTree(x), err)
	}
}

// TestCheckByChance: displays with changes by chance, held against the chapter's words.
func TestCheckByChance(t *testing.T) {
	r := chanceOf(1010)
	var good, bad int
	for range 20000 {
		s := r.display(1 + r.Intn(12))
		for range 1 + r.Intn(2) {
			s = r.spoilt(s)
		}
		want := api.ErrState
		if mayBe(s) {
			want = api.OK
			good++
		} else {
			bad++
		}
		if err := dom.Check(s); err != want {
			t.Fatalf("P10.1: Check(%s): %v, want %v", tell(s), err, want)
		}
	}
	if good < 1000 || bad < 1000 {
		t.Errorf("the tests' own chance is one-sided: %d may be, %d may not", good, bad)
	}
}
