package dom_test

import (
	"slices"
	"strconv"
	"strings"
	"testing"

	"fanlight/api"
	"fanlight/dom"
	"fanlight/tree"
)

func part(tag string, kids ...api.Tree) api.Tree {
	return api.Tree{Tag: tag, Kids: kids}
}

func words(s string) api.Tree {
	return api.Tree{Text: s}
}

// down is t within so many elements that it is the n-th of nodes within each other.
func down(n int, t api.Tree) api.Tree {
	for range n - 1 {
		t = part("p", t)
	}
	return t
}

// treeOf is the tree of a node by the chapter's words alone: the root's tree has the node's fields, and its kids' trees in order.
func treeOf(s dom.State, id int) api.Tree {
	n := node(s, id)
	t := api.Tree{Tag: n.Tag, Key: n.Key, Text: n.Text, Attrs: slices.Clone(n.Attrs)}
	for _, kid := range n.Kids {
		t.Kids = append(t.Kids, treeOf(s, kid))
	}
	return t
}

func depthOf(t api.Tree) int {
	depth := 0
	for _, kid := range t.Kids {
		depth = max(depth, depthOf(kid))
	}
	return depth + 1
}

// greatTree is one of 256 nodes.
func greatTree() api.Tree {
	t := part("p")
	for i := range 15 {
		inner := api.Tree{Tag: "b", Key: "k" + strconv.Itoa(i)}
		for j := range 16 {
			inner.Kids = append(inner.Kids, words(strconv.Itoa(j)))
		}
		t.Kids = append(t.Kids, inner)
	}
	return t
}

// trees are trees that may be.
func trees() []api.Tree {
	long := strings.Repeat("x", written)
	l := []api.Tree{
		part("p"), part("p", words("a<b")), part("p", words("")), part("p", words("a"), words("a"), words("")),
		down(deepest, part("b")), down(deepest, words("x")), greatTree(),
		part("p", part("b", words("x"), part("i")), words("y"), part("b", part("i", words("z")), words(""))),
		{Tag: "p", Key: "k", Attrs: []api.Attr{{Name: "a", Value: "1"}, {Name: "key", Value: long}}, Kids: []api.Tree{{Tag: "p", Key: "k"}, {Tag: "p", Key: "m"}, words(long)}},
		{Tag: strings.Repeat("z", longest), Key: strings.Repeat("\xff", longest), Attrs: []api.Attr{}, Kids: []api.Tree{}},
		{Tag: "p", Attrs: manyAttrs(dom.Node{}, named).Attrs, Kids: make([]api.Tree, 16)},
	}
	r := chanceOf(1040)
	for len(l) < 300 {
		if t := r.tree(1); tree.Check(t) == api.OK {
			l = append(l, t)
		}
	}
	return l
}

// tree is an element that mostly may be.
func (r chance) tree(depth int) api.Tree {
	n := r.node(1)
	for n.Tag == "" {
		n = r.node(1)
	}
	t := api.Tree{Tag: n.Tag, Key: n.Key, Attrs: n.Attrs}
	for range r.Intn(5) {
		if depth == deepest || r.Intn(2) == 0 {
			t.Kids = append(t.Kids, words(r.of(goodTexts()...)))
		} else {
			t.Kids = append(t.Kids, r.tree(depth+1))
		}
	}
	return t
}

func TestTree(t *testing.T) {
	chain := func(n int, root int) dom.State { return display(root, n+1, deep(n).Nodes...) }
	endsInText := deep(deepest)
	endsInText.Nodes[deepest-1] = text(deepest, deepest-1, "x")
	for _, c := range []struct {
		name  string
		state dom.State
		want  api.Tree
	}{
		{"a root alone", display(1, 2, el(1, 0, "p")), part("p")},
		{"the example", display(1, 3, el(1, 0, "p", 2), text(2, 1, "x")), part("p", words("x"))},
		{"another order than by ID", display(3, 5, text(1, 3, "c"), text(2, 3, "a"), el(3, 0, "p", 4, 2, 1), el(4, 3, "b")), part("p", part("b"), words("a"), words("c"))},
		{"the sample", sample(), part("p", words("a"), api.Tree{Tag: "b", Key: "k", Attrs: []api.Attr{{Name: "b", Value: "1"}, {Name: "d", Value: "2"}}, Kids: []api.Tree{part("i", words("y")), words("x")}}, words(""))},
		{"another root", display(8, 20, sample().Nodes...), part("u", words("z"))},
		{"a root without kids", display(12, 20, sample().Nodes...), part("s")},
		{"8 deep", deep(deepest), down(deepest, part("p"))},
		{"8 deep, the eighth a text", endsInText, down(deepest, words("x"))},
		{"9 deep, but not the root's", display(10, 11, append(deep(9).Nodes, el(10, 0, "b"))...), part("b")},
	} {
		for _, s := range []dom.State{c.state, bare(c.state), full(c.state)} {
			if x, err := dom.Tree(s); tellTree(x) != tellTree(c.want) || err != api.OK {
				t.Errorf("P10.2: Tree, %s: %s, %v, want %s", c.name, tellTree(x), err, tellTree(c.want))
			}
		}
	}
	for _, c := range []struct {
		name  string
		state dom.State
		err   api.Errno
	}{
		{"nothing", dom.New(), api.ErrNone},
		{"nodes, but no Root", display(0, 20, sample().Nodes...), api.ErrNone},
		{"9 deep, but no Root", chain(9, 0), api.ErrNone},
		{"9 deep", chain(9, 1), api.ErrDeep},
		{"10 deep", chain(10, 1), api.ErrDeep},
		{"1024 deep", chain(most, 1), api.ErrDeep},
		{"9 deep behind others", behindOthers(9), api.ErrDeep},
	} {
		if x, err := dom.Tree(c.state); tellTree(x) != tellTree(api.Tree{}) || err != c.err {
			t.Errorf("P10.2, P4: Tree, %s: %s, %v, want %v", c.name, tellTree(x), err, c.err)
		}
	}
	if x, err := dom.Tree(behindOthers(deepest)); depthOf(x) != deepest || len(x.Kids) != 3 || err != api.OK {
		t.Errorf("P10.2: Tree, 8 deep behind others: %s, %v", tellTree(x), err)
	}
}

// behindOthers is a display n deep, where the deepest is a text, and others are not as deep.
func behindOthers(n int) dom.State {
	s := deep(n - 1)
	s.Nodes[0].Kids = []int{n, n + 1, 2}
	s.Nodes[n-2].Kids = []int{n + 2}
	s.Nodes = append(s.Nodes, text(n, 1, "x"), el(n+1, 1, "b"), text(n+2, n-1, "deepest"))
	s.Next = n + 3
	return s
}

// TestTreeThatMayNotBe: for its keys, its size, or how many kids a node has.
func TestTreeThatMayNotBe(t *testing.T) {
	for name, s := range map[string]dom.State{"1024 nodes": wide(), "32 kids": parted(fan), "two kids with one Key": twins(2), "32 kids with one Key": twins(fan)} {
		want := treeOf(s, s.Root)
		if tree.Check(want) == api.OK {
			t.Fatalf("the tests' own tree may be: %s", name)
		}
		if x, err := dom.Tree(s); tellTree(x) != tellTree(want) || err != api.OK {
			t.Errorf("P10.2: Tree, %s: %.2000s, %v", name, tellTree(x), err)
		}
	}
}

func TestTreeByChance(t *testing.T) {
	r := chanceOf(1050)
	met := map[api.Errno]int{}
	for range 3000 {
		s := r.display(1 + r.Intn(60))
		want, wantErr := api.Tree{}, api.ErrNone
		if s.Root != 0 {
			want, wantErr = treeOf(s, s.Root), api.OK
		}
		if depthOf(want) > deepest {
			want, wantErr = api.Tree{}, api.ErrDeep
		}
		met[wantErr]++
		if x, err := dom.Tree(s); tellTree(x) != tellTree(want) || err != wantErr {
			t.Fatalf("P10.2: Tree(%s): %s, %v, want %s, %v", tell(s), tellTree(x), err, tellTree(want), wantErr)
		}
	}
	if len(met) != 3 || met[api.ErrDeep] < 50 || met[api.OK] < 50 || met[api.ErrNone] < 50 {
		t.Errorf("the tests' own chance is one-sided: %v", met)
	}
}

func TestBuildNumbers(t *testing.T) {
	x := part("p", part("b", words("x"), part("i", words("y"))), words("z"), api.Tree{Tag: "u", Key: "k", Attrs: []api.Attr{{Name: "a", Value: "1"}}, Kids: []api.Tree{words("")}})
	want := display(1, 9,
		el(1, 0, "p", 2, 6, 7), el(2, 1, "b", 3, 4), text(3, 2, "x"), el(4, 2, "i", 5), text(5, 4, "y"), text(6, 1, "z"),
		with(keyed(el(7, 1, "u", 8), "k"), "a", "1"), text(8, 7, ""))
	if s, err := dom.Build(x); tell(s) != tell(want) || err != api.OK {
		t.Errorf("P10.2: Build: %s, %v, want %s", tell(s), err, tell(want))
	}
}

// inOrder are the nodes of a tree, each ahead of its kids.
func inOrder(t api.Tree) []api.Tree {
	l := []api.Tree{t}
	for _, kid := range t.Kids {
		l = append(l, inOrder(kid)...)
	}
	return l
}

func TestTreeOfBuildIsTheTree(t *testing.T) {
	for _, x := range trees() {
		s, err := dom.Build(x)
		if err != api.OK || dom.Check(s) != api.OK || !mayBe(s) {
			t.Fatalf("P10.2, P10.4: Build(%s): %s, %v", tellTree(x), tell(s), err)
		}
		l := inOrder(x)
		if len(s.Nodes) != len(l) || s.Root != 1 || s.Next != len(l)+1 {
			t.Fatalf("P10.2: Build(%s): %s", tellTree(x), tell(s))
		}
		for i, n := range s.Nodes {
			if n.ID != i+1 || tellTree(treeOf(s, n.ID)) != tellTree(l[i]) {
				t.Fatalf("P10.2: Build(%s): the node at %d is %d, %s", tellTree(x), i, n.ID, tellTree(treeOf(s, n.ID)))
			}
		}
		if y, err := dom.Tree(s); tellTree(y) != tellTree(x) || !tree.Same(x, y) || err != api.OK {
			t.Fatalf("P10.3: Tree of Build: %s, %v, want %s", tellTree(y), err, tellTree(x))
		}
	}
}

// TestBuildRefuses: tree.Check's error, and no display.
func TestBuildRefuses(t *testing.T) {
	long := strings.Repeat("x", written+1)
	great := greatTree()
	great.Kids = append(great.Kids, words(""))
	itself := part("p", words(""))
	itself.Kids[0] = itself
	for _, c := range []struct {
		name string
		tree api.Tree
		err  api.Errno
	}{
		{"no tree at all", api.Tree{}, api.ErrState},
		{"a text", words("x"), api.ErrState},
		{"9 deep", down(deepest+1, part("b")), api.ErrDeep},
		{"within itself", itself, api.ErrDeep},
		{"257 nodes", great, api.ErrCount},
		{"17 kids", part("p", make([]api.Tree, 17)...), api.ErrState},
		{"a Tag", part("p", part("A")), api.ErrState},
		{"a long Text", part("p", words(long)), api.ErrState},
		{"an element with a Text", api.Tree{Tag: "p", Text: "x"}, api.ErrState},
		{"Names out of order", api.Tree{Tag: "p", Attrs: []api.Attr{{Name: "b"}, {Name: "a"}}}, api.ErrState},
		{"two kids with one Key", part("p", api.Tree{Tag: "b", Key: "k"}, api.Tree{Tag: "b", Key: "k"}), api.ErrTwice},
		{"two kids with one Key, ahead of 9 deep", part("p", api.Tree{Tag: "b", Key: "k"}, api.Tree{Tag: "b", Key: "k", Kids: []api.Tree{down(deepest, words("x"))}}), api.ErrTwice},
		{"9 deep, ahead of a Tag", part("p", down(deepest, words("x")), part("A")), api.ErrDeep},
	} {
		if s, err := dom.Build(c.tree); tell(s) != "root 0 next 0" || err != c.err {
			t.Errorf("P10.2, P4: Build, %s: %s, %v, want %v", c.name, tell(s), err, c.err)
		}
	}
}

// TestBuildTakesPatches: a display that was built goes on from its Next.
func TestBuildTakesPatches(t *testing.T) {
	s, _ := dom.Build(part("p", words("x")))
	s, n, err := dom.Run(s, []dom.Patch{{What: 1, ID: 3, Tag: "b"}, {What: 2, ID: 3, Parent: 1, At: 1}, {What: 2, ID: 2, Parent: 3}})
	if x, _ := dom.Tree(s); tellTree(x) != tellTree(part("p", part("b", words("x")))) || n != 3 || err != api.OK {
		t.Errorf("P10.2: Run behind Build: %s, %d, %v", tell(s), n, err)
	}
}
