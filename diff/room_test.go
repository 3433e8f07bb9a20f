package diff_test

import (
	"slices"
	"testing"

	"fanlight/api"
	"fanlight/diff"
	"fanlight/dom"
	"fanlight/tree"
)

// TestRoomForNodes: 1024 nodes at some time are not too many, 1025 are, how many ever are left at the end.
func TestRoomForNodes(t *testing.T) {
	gone := rooted(words("x"), key("a", words("y"), words("z")))
	for _, c := range []struct {
		name  string
		state dom.State
		tree  api.Tree
		room  int // that the patches take beyond the nodes that are there
	}{
		{"a root alone", dom.New(), part("p"), 1},
		{"a root and a text", dom.New(), part("p", words("x")), 2},
		{"256 nodes", dom.New(), great(), 256},
		{"loose ones, no Root", display(0, 20, el(3, 0, "p", 5), text(5, 3, "x")), part("p", words("x")), 2},
		{"no room is asked for", gone, part("p"), 0},
		{"only a text is another", gone, part("p", words("y"), key("a", words("y"), words("z"))), 0},
		{"one kid for another", rooted(key("a")), part("p", key("b")), 0},
		{"two kids for one", rooted(key("a")), part("p", key("b"), key("c")), 1},
		{"a kid and its kids for as many", rooted(key("a", words("x"), words("y"))), part("p", key("b", words("x"), words("y"))), 0},
		{"another root for as many", build(part("p", words("x"), words("y"))), part("b", words("x"), words("y")), 0},
		{"another root for one more", build(part("p", words("x"))), part("b", words("x"), words("y")), 1},
		{"another root for less", build(part("p", words("x"))), part("b"), 0},
		{"one is made, then one deeper is gone", gone, part("p", words("x"), key("a", words("y")), key("b")), 1},
		{"one is made, then two deeper are gone", gone, part("p", words("x"), key("a"), key("b")), 1},
		{"two are made, then two deeper are gone", gone, part("p", words("x"), key("a"), key("b"), key("c")), 2},
		{"one deeper is gone ahead of one that is made yet later", rooted(key("a", words("x")), key("b")), part("p", key("a"), key("b", words("x"))), 0},
		{"one deeper is made ahead of one that is gone yet later", rooted(key("a"), key("b", words("x"))), part("p", key("a", words("x")), key("b")), 1},
		{"one is gone, one is made and one deeper is made", rooted(words("x"), key("a")), part("p", key("a", words("x")), key("b")), 1},
	} {
		there := len(c.state.Nodes)
		mustTurn(t, c.name+", room for all", c.state, c.tree)
		mustFit(t, c.name, c.state, c.tree, most-there-c.room)
		if c.room > 0 {
			mustRefuse(t, c.name+", no room for the last", filled(c.state, most-there-c.room+1), c.tree, api.ErrFull)
			mustRefuse(t, c.name+", no room at all", filled(c.state, most-there), c.tree, api.ErrFull)
		}
	}
	mustTurn(t, "1024 nodes that go away with the root", wide(), part("b", words("x")))
}

// mustFit holds that with n loose nodes more the patches are the same, but for the numbers of what is new.
func mustFit(t *testing.T, name string, s dom.State, x api.Tree, n int) {
	t.Helper()
	l, err := diff.Diff(s, x)
	if err != api.OK {
		t.Fatalf("P12.1: Diff, %s: %v", name, err)
	}
	more := filled(s, n)
	got, err := diff.Diff(more, x)
	if want := shifted(l, s.Next, n); !slices.Equal(got, want) || err != api.OK {
		t.Fatalf("P12.1: Diff, %s, beside %d loose nodes: %.3000s, %v, want %.3000s", name, n, tellPatches(got), err, tellPatches(want))
	}
	u, err := diff.Turn(more, x)
	if y, _ := dom.Tree(u); !tree.Same(x, y) || err != api.OK {
		t.Fatalf("P12.2: Turn, %s, beside %d loose nodes: %.3000s, %v", name, n, tellTree(y), err)
	}
}

// shifted are the patches with numbers from next on put up by n.
func shifted(l []dom.Patch, next, n int) []dom.Patch {
	l = slices.Clone(l)
	for i := range l {
		if l[i].ID >= next {
			l[i].ID += n
		}
		if l[i].Parent >= next {
			l[i].Parent += n
		}
	}
	return l
}

// TestRoomForNumbers: Next may reach 2^31 - 1, and not pass it.
func TestRoomForNumbers(t *testing.T) {
	small := rooted(words("x"), key("a", words("y")))
	for _, c := range []struct {
		name    string
		state   dom.State
		tree    api.Tree
		created int
	}{
		{"a root alone", dom.New(), part("p"), 1},
		{"256 nodes", dom.New(), great(), 256},
		{"the same tree", small, part("p", words("x"), key("a", words("y"))), 0},
		{"a text is another", small, part("p", words("z"), key("a", words("y"))), 0},
		{"all gone", small, part("p"), 0},
		{"another order", small, part("p", key("a", words("y")), words("x")), 0},
		{"one kid for another", small, part("p", words("x"), key("b")), 1},
		{"one deeper", small, part("p", words("x"), key("a", words("y"), words("z"))), 1},
		{"two", small, part("p", words("x"), key("b", words("y"))), 2},
		{"another root", small, part("b", words("x")), 2},
		{"no Root", display(0, 9, small.Nodes...), part("p"), 1},
	} {
		s := clone(c.state)
		l, _ := diff.Diff(s, c.tree)
		s.Next = lastNext - c.created
		mustTurn(t, c.name+", the highest Next", s, c.tree)
		got, err := diff.Diff(s, c.tree)
		if want := shifted(l, c.state.Next, s.Next-c.state.Next); !slices.Equal(got, want) || err != api.OK {
			t.Errorf("P12.1: Diff, %s, the highest Next: %.3000s, %v, want %.3000s", c.name, tellPatches(got), err, tellPatches(want))
		}
		if u, err := diff.Turn(s, c.tree); u.Next != lastNext || err != api.OK {
			t.Errorf("P12.1: Turn, %s, the highest Next: Next is %d, %v", c.name, u.Next, err)
		}
		for s.Next++; s.Next <= lastNext && s.Next <= lastNext-c.created+3; s.Next++ {
			mustRefuse(t, c.name+", Next would pass 2^31 - 1", s, c.tree, api.ErrFull)
		}
		if c.created > 0 {
			s.Next = lastNext
			mustRefuse(t, c.name+", no number is left", s, c.tree, api.ErrFull)
		}
	}
}

// run tells how many nodes there are at most on the way through patches, and how many are created.
func run(s dom.State, l []dom.Patch) (highest, created int) {
	highest = len(s.Nodes)
	for _, p := range l {
		s, _ = dom.Apply(s, p)
		highest = max(highest, len(s.Nodes))
		if p.What == 1 {
			created++
		}
	}
	return highest, created
}

// TestRoomByChance: by so many loose nodes, or so high a Next, that there is just room, and that there is just none.
func TestRoomByChance(t *testing.T) {
	r := chanceOf(1206)
	fewer := 0
	for range 250 {
		s := r.display(r.Intn(30))
		x := r.changed(s)
		l, u, err := slowly(s, x)
		if _, deep := dom.Tree(s); deep == api.ErrDeep || err != api.OK {
			continue
		}
		highest, created := run(s, l)
		mustFit(t, "by chance", s, x, most-highest)
		if highest > len(s.Nodes) {
			mustRefuse(t, "by chance, 1025 nodes", filled(s, most-highest+1), x, api.ErrFull)
		}
		if highest > len(s.Nodes) && highest > len(u.Nodes) {
			fewer++
		}
		s.Next = lastNext - created
		mustTurn(t, "by chance, the highest Next", s, x)
		if created > 0 {
			s.Next++
			mustRefuse(t, "by chance, Next would pass 2^31 - 1", s, x, api.ErrFull)
		}
	}
	if fewer < 10 {
		t.Errorf("the tests' own chance is one-sided: %d", fewer)
	}
}
