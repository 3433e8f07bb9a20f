package hydrate_test

import (
	"slices"
	"testing"

	"fanlight/api"
	"fanlight/dom"
	"fanlight/hydrate"
	"fanlight/tree"
)

func TestLoose(t *testing.T) {
	for _, c := range []struct {
		name  string
		state dom.State
		want  []int
	}{
		{"no nodes", dom.New(), nil},
		{"no nodes, the highest Next", display(0, lastNext), nil},
		{"a root alone", build(part("p")), nil},
		{"a root with kids", build(part("p", words("x"), key("k", words("y")))), nil},
		{"1024 nodes, none of them loose", crowd(most), nil},
		{"1024 deep", deep(most), nil},
		{"a text alone", display(0, 2, text(1, 0, "x")), []int{1}},
		{"an element alone, no Root", display(0, 2, el(1, 0, "p")), []int{1}},
		{"what was the root, with its kids", display(0, 5, build(part("p", words("x"), key("k", words("y")))).Nodes...), []int{1}},
		{"a text beside the root", display(1, 3, el(1, 0, "p"), text(2, 0, "x")), []int{2}},
		{"an element beside the root", display(1, 3, el(1, 0, "p"), el(2, 0, "p")), []int{2}},
		{"ahead of the root", display(2, 3, el(1, 0, "p"), el(2, 0, "p")), []int{1}},
		{"on both sides of the root", display(2, 4, el(1, 0, "p"), el(2, 0, "p"), text(3, 0, "")), []int{1, 3}},
		{"the same without a Root", display(0, 4, el(1, 0, "p"), el(2, 0, "p"), text(3, 0, "")), []int{1, 2, 3}},
		{"one with kids, of which none is told", display(1, 7, el(1, 0, "p", 5), el(2, 0, "p", 3, 6), el(3, 2, "b", 4), text(4, 3, ""), text(5, 1, ""), text(6, 2, "")), []int{2}},
		{"one with a kid of a lower number", display(2, 9, text(1, 7, "x"), el(2, 0, "p"), el(7, 0, "b", 1)), []int{7}},
		{"kids and loose ones by turns", display(4, 9, el(1, 0, "p", 7, 2), text(2, 1, ""), el(3, 0, "p"), el(4, 0, "p", 8, 5), text(5, 4, ""), text(6, 0, ""), text(7, 1, ""), text(8, 4, "")), []int{1, 3, 6}},
		{"numbers far from each other", display(40, lastNext, el(3, 0, "p"), el(40, 0, "p"), text(2000, 0, ""), text(lastNext-1, 0, "")), []int{3, 2000, lastNext - 1}},
		{"a tree 9 deep beside the root", beside(build(part("p")), deep(9)), []int{2}},
		{"a tree 9 deep ahead of the root", ahead(deep(9), build(part("p"))), []int{1}},
		{"many", filled(build(part("p", words("x"))), 5), []int{3, 4, 5, 6, 7}},
	} {
		if got, err := hydrate.Loose(c.state); !slices.Equal(got, c.want) || err != api.OK {
			t.Errorf("P13.1: Loose, %s: %v, %v, want %v", c.name, got, err, c.want)
		}
	}
	all := filled(dom.New(), most)
	if got, err := hydrate.Loose(all); !slices.Equal(got, idsOf(all)) || err != api.OK {
		t.Errorf("P13.1: Loose, 1024 loose nodes: %v, %v", got, err)
	}
}

// told are a display and a tree, with all that is answered of them written out.
type told struct {
	name    string
	state   dom.State
	tree    api.Tree
	patches []dom.Patch
	kept    []int
	behind  dom.State
}

func mustTell(t *testing.T, c told) {
	t.Helper()
	if l, err := hydrate.Patches(c.state, c.tree); !slices.Equal(l, c.patches) || err != api.OK {
		t.Errorf("P13.1: Patches, %s: %s, %v, want %s", c.name, tellPatches(l), err, tellPatches(c.patches))
	}
	if u, err := hydrate.Hydrate(c.state, c.tree); tell(u) != tell(c.behind) || err != api.OK {
		t.Errorf("P13.1: Hydrate, %s: %s, %v, want %s", c.name, tell(u), err, tell(c.behind))
	}
	if l, err := hydrate.Kept(c.state, c.tree); !slices.Equal(l, c.kept) || err != api.OK {
		t.Errorf("P13.1: Kept, %s: %v, %v, want %v", c.name, l, err, c.kept)
	}
	mustHydrate(t, c.name, c.state, c.tree)
}

// TestExample: the chapter's: a display without a root and two loose nodes: both go, t is made.
func TestExample(t *testing.T) {
	mustTell(t, told{"the example", display(0, 3, el(1, 0, "a"), text(2, 0, "x")), part("p", words("y")),
		[]dom.Patch{away(1), away(2), create(3, "p", ""), createText(4, "y"), hang(4, 3, 0), root(3)},
		nil, display(3, 5, el(3, 0, "p", 4), text(4, 3, "y"))})
}

// TestNothingHangsLoose: the patches are those of diff alone.
func TestNothingHangsLoose(t *testing.T) {
	px := part("p", words("x"))
	for _, c := range []told{
		{"nothing has to be done", build(px), px, nil, []int{1, 2}, display(1, 3, el(1, 0, "p", 2), text(2, 1, "x"))},
		{"no nodes", dom.New(), px, []dom.Patch{create(1, "p", ""), createText(2, "x"), hang(2, 1, 0), root(1)}, nil, build(px)},
		{"another text", build(px), part("p", words("y")), []dom.Patch{reword(2, "y")}, []int{1, 2}, display(1, 3, el(1, 0, "p", 2), text(2, 1, "y"))},
		{"another root", build(px), part("b"), []dom.Patch{away(1), create(3, "b", ""), root(3)}, nil, display(3, 4, el(3, 0, "b"))},
		{"a kid goes", build(px), part("p"), []dom.Patch{away(2)}, []int{1}, display(1, 3, el(1, 0, "p"))},
		{"an attribute goes, one comes", display(1, 2, with(el(1, 0, "p"), "a", "1")), having(part("p"), "b", "2"),
			[]dom.Patch{unset(1, "a"), set(1, "b", "2")}, []int{1}, display(1, 2, with(el(1, 0, "p"), "b", "2"))},
		{"another order", build(part("p", key("a"), key("b"), key("c"))), part("p", key("c"), key("a"), key("b")),
			[]dom.Patch{hang(4, 1, 0)}, []int{1, 2, 3, 4}, display(1, 5, el(1, 0, "p", 4, 2, 3), keyed(el(2, 1, "i"), "a"), keyed(el(3, 1, "i"), "b"), keyed(el(4, 1, "i"), "c"))},
	} {
		mustTell(t, c)
	}
}

// TestLooseGoFirst: ahead of any other patch, rising; none of them is taken for the tree, how ever well it fits.
func TestLooseGoFirst(t *testing.T) {
	px := part("p", words("x"))
	for _, c := range []told{
		{"one behind the root, nothing else to be done", display(1, 4, el(1, 0, "p", 2), text(2, 1, "x"), text(3, 0, "x")), px,
			[]dom.Patch{away(3)}, []int{1, 2}, display(1, 4, el(1, 0, "p", 2), text(2, 1, "x"))},
		{"one ahead of the root", display(2, 4, text(1, 0, "x"), el(2, 0, "p", 3), text(3, 2, "x")), px,
			[]dom.Patch{away(1)}, []int{2, 3}, display(2, 4, el(2, 0, "p", 3), text(3, 2, "x"))},
		{"three on both sides of the root, one of them with a kid", display(3, 9, el(1, 0, "b", 5), text(2, 0, "x"), el(3, 0, "p", 4), text(4, 3, "y"), text(5, 1, "z"), text(7, 0, "w")), px,
			[]dom.Patch{away(1), away(2), away(7), reword(4, "x")}, []int{3, 4}, display(3, 9, el(3, 0, "p", 4), text(4, 3, "x"))},
		{"a kid with a lower number than its loose Parent", display(2, 8, text(1, 7, "x"), el(2, 0, "p"), el(7, 0, "b", 1)), px,
			[]dom.Patch{away(7), createText(8, "x"), hang(8, 2, 0)}, []int{2}, display(2, 9, el(2, 0, "p", 8), text(8, 2, "x"))},
		{"one that fits, where the root does not", display(2, 4, el(1, 0, "p", 3), el(2, 0, "b"), text(3, 1, "x")), px,
			[]dom.Patch{away(1), away(2), create(4, "p", ""), createText(5, "x"), hang(5, 4, 0), root(4)}, nil, display(4, 6, el(4, 0, "p", 5), text(5, 4, "x"))},
		{"one with a higher number than a root that does not fit", display(1, 4, el(1, 0, "b"), el(2, 0, "p", 3), text(3, 2, "x")), px,
			[]dom.Patch{away(2), away(1), create(4, "p", ""), createText(5, "x"), hang(5, 4, 0), root(4)}, nil, display(4, 6, el(4, 0, "p", 5), text(5, 4, "x"))},
		{"what was the root, and fits", display(0, 3, el(1, 0, "p", 2), text(2, 1, "x")), px,
			[]dom.Patch{away(1), create(3, "p", ""), createText(4, "x"), hang(4, 3, 0), root(3)}, nil, display(3, 5, el(3, 0, "p", 4), text(4, 3, "x"))},
		{"one that was made and not yet hung", display(1, 3, el(1, 0, "p"), text(2, 0, "x")), px,
			[]dom.Patch{away(2), createText(3, "x"), hang(3, 1, 0)}, []int{1}, display(1, 4, el(1, 0, "p", 3), text(3, 1, "x"))},
		{"a kid goes, too", display(1, 4, el(1, 0, "p", 2), text(2, 1, "x"), text(3, 0, "x")), part("p"),
			[]dom.Patch{away(3), away(2)}, []int{1}, display(1, 4, el(1, 0, "p"))},
		{"another order", display(1, 5, el(1, 0, "p", 2, 3), keyed(el(2, 1, "i"), "a"), keyed(el(3, 1, "i"), "b"), keyed(el(4, 0, "i"), "c")), part("p", key("c"), key("b"), key("a")),
			[]dom.Patch{away(4), create(5, "i", "c"), hang(5, 1, 0), hang(3, 1, 1)}, []int{1, 2, 3},
			display(1, 6, el(1, 0, "p", 5, 3, 2), keyed(el(2, 1, "i"), "a"), keyed(el(3, 1, "i"), "b"), keyed(el(5, 1, "i"), "c"))},
	} {
		mustTell(t, c)
	}
}

// TestDeepRoots: a root's tree that is 8 deep stays as far as it fits; one that is 9 deep goes, behind the loose nodes, whatever their numbers are.
func TestDeepRoots(t *testing.T) {
	inText := func(n int) dom.State {
		s := deep(n)
		s.Nodes[n-1] = text(n, n-1, "x")
		return s
	}
	behindOthers := display(1, 13, append(deep(9).Nodes, text(10, 1, "x"), el(11, 1, "b"), text(12, 1, "y"))...)
	behindOthers.Nodes[0].Kids = []int{10, 11, 2, 12}
	p := part("p")
	for _, c := range []told{
		{"8 deep", deep(8), p, []dom.Patch{away(2)}, []int{1}, display(1, 9, el(1, 0, "p"))},
		{"8 deep to itself", deep(8), down(8, p), nil, []int{1, 2, 3, 4, 5, 6, 7, 8}, deep(8)},
		{"8 deep, a text", inText(8), down(8, words("x")), nil, []int{1, 2, 3, 4, 5, 6, 7, 8}, inText(8)},
		{"8 deep, and a loose one", filled(deep(8), 1), down(8, p), []dom.Patch{away(9)}, []int{1, 2, 3, 4, 5, 6, 7, 8}, display(1, 10, deep(8).Nodes...)},
		{"9 deep", deep(9), p, []dom.Patch{away(1), create(10, "p", ""), root(10)}, nil, display(10, 11, el(10, 0, "p"))},
		{"9 deep, a text", inText(9), p, []dom.Patch{away(1), create(10, "p", ""), root(10)}, nil, display(10, 11, el(10, 0, "p"))},
		{"9 deep, another root", deep(9), part("b"), []dom.Patch{away(1), create(10, "b", ""), root(10)}, nil, display(10, 11, el(10, 0, "b"))},
		{"9 deep behind others", behindOthers, p, []dom.Patch{away(1), create(13, "p", ""), root(13)}, nil, display(13, 14, el(13, 0, "p"))},
		{"1024 deep", deep(most), p, []dom.Patch{away(1), create(1025, "p", ""), root(1025)}, nil, display(1025, 1026, el(1025, 0, "p"))},
		{"9 deep, loose ones with higher numbers", filled(deep(9), 2), p, []dom.Patch{away(10), away(11), away(1), create(12, "p", ""), root(12)}, nil, display(12, 13, el(12, 0, "p"))},
		{"9 deep, loose ones with lower numbers", ahead(filled(dom.New(), 2), deep(9)), p, []dom.Patch{away(1), away(2), away(3), create(12, "p", ""), root(12)}, nil, display(12, 13, el(12, 0, "p"))},
		{"9 deep, loose ones with lower and higher numbers", filled(ahead(build(p), deep(9)), 1), p, []dom.Patch{away(1), away(11), away(2), create(12, "p", ""), root(12)}, nil, display(12, 13, el(12, 0, "p"))},
		{"a loose tree 9 deep", beside(build(p), deep(9)), p, []dom.Patch{away(2)}, []int{1}, display(1, 11, el(1, 0, "p"))},
		{"a loose tree 9 deep, ahead of the root", ahead(deep(9), build(p)), p, []dom.Patch{away(1)}, []int{10}, display(10, 11, el(10, 0, "p"))},
		{"a loose tree 9 deep, and a root 8 deep", beside(deep(8), deep(9)), p, []dom.Patch{away(9), away(2)}, []int{1}, display(1, 18, el(1, 0, "p"))},
		{"two trees 9 deep", beside(deep(9), deep(9)), p, []dom.Patch{away(10), away(1), create(19, "p", ""), root(19)}, nil, display(19, 20, el(19, 0, "p"))},
		{"9 deep, no Root", display(0, 10, deep(9).Nodes...), p, []dom.Patch{away(1), create(10, "p", ""), root(10)}, nil, display(10, 11, el(10, 0, "p"))},
		{"1023 deep beside the root", beside(build(p), deep(most-1)), p, []dom.Patch{away(2)}, []int{1}, display(1, 1025, el(1, 0, "p"))},
	} {
		mustTell(t, c)
	}
}

// mustHydrate holds all answers of a display and a tree of which nothing is refused against the slow working, and all that follows.
func mustHydrate(t *testing.T, name string, s dom.State, x api.Tree) {
	t.Helper()
	want, err := slowly(s, x)
	if err != api.OK {
		t.Fatalf("the tests' own display or tree, %s: %v", name, err)
	}
	if l, err := hydrate.Loose(s); !slices.Equal(l, want.loose) || err != api.OK {
		t.Fatalf("P13.1: Loose, %s, of %.3000s: %v, %v, want %v", name, tell(s), l, err, want.loose)
	}
	if l, err := hydrate.Patches(s, x); !slices.Equal(l, want.patches) || err != api.OK {
		t.Fatalf("P13.1: Patches, %s, of %.3000s, to %.3000s: %.3000s, %v, want %.3000s", name, tell(s), tellTree(x), tellPatches(l), err, tellPatches(want.patches))
	}
	u, err := hydrate.Hydrate(s, x)
	if tell(u) != tell(want.behind) || err != api.OK {
		t.Fatalf("P13.1: Hydrate, %s, of %.3000s, to %.3000s: %.3000s, %v, want %.3000s", name, tell(s), tellTree(x), tell(u), err, tell(want.behind))
	}
	kept, err := hydrate.Kept(s, x)
	if !slices.Equal(kept, want.kept) || err != api.OK {
		t.Fatalf("P13.1: Kept, %s, of %.3000s, to %.3000s: %v, %v, want %v", name, tell(s), tellTree(x), kept, err, want.kept)
	}
	if must := paired(s, x); !slices.Equal(kept, must) {
		t.Fatalf("G4: Kept, %s, of %.3000s, to %.3000s: %v, but these fit: %v", name, tell(s), tellTree(x), kept, must)
	}
	mustFollow(t, name, s, x, u)
}

// mustFollow holds what follows of the display u behind Hydrate of s and x.
func mustFollow(t *testing.T, name string, s dom.State, x api.Tree, u dom.State) {
	t.Helper()
	if y, err := dom.Tree(u); tellTree(y) != tellTree(x) || !tree.Same(x, y) || err != api.OK {
		t.Fatalf("P13.2: Hydrate, %s, of %.3000s: the tree is %.3000s, %v, want %.3000s", name, tell(s), tellTree(y), err, tellTree(x))
	}
	if nodes, _, _ := tree.Size(x); len(u.Nodes) != nodes || dom.Check(u) != api.OK {
		t.Fatalf("P13.2: Hydrate, %s, of %.3000s to %.3000s: there are other nodes than the tree's: %.3000s", name, tell(s), tellTree(x), tell(u))
	}
	if l, err := hydrate.Loose(u); len(l) != 0 || err != api.OK {
		t.Fatalf("P13.2: Loose behind Hydrate, %s, of %.3000s: %v, %v", name, tell(s), l, err)
	}
	if l, err := hydrate.Patches(u, x); len(l) != 0 || err != api.OK {
		t.Fatalf("P13.4: Patches again, %s, of %.3000s: %.3000s, %v", name, tell(u), tellPatches(l), err)
	}
	if again, err := hydrate.Hydrate(u, x); tell(again) != tell(u) || err != api.OK {
		t.Fatalf("P13.4: Hydrate again, %s, of %.3000s: %.3000s, %v", name, tell(u), tell(again), err)
	}
	if l, err := hydrate.Kept(u, x); !slices.Equal(l, idsOf(u)) || err != api.OK {
		t.Fatalf("P13.4: Kept again, %s, of %.3000s: %v, %v", name, tell(u), l, err)
	}
}
