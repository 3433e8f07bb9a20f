package diff_test

import (
	"slices"
	"strconv"
	"testing"

	"fanlight/api"
	"fanlight/diff"
	"fanlight/dom"
	"fanlight/tree"
)

// mustFollow holds what follows of the patches l of s and x, and of the display u behind them.
func mustFollow(t *testing.T, name string, s dom.State, x api.Tree, l []dom.Patch, u dom.State) {
	t.Helper()
	if y, err := dom.Tree(u); tellTree(y) != tellTree(x) || !tree.Same(x, y) || err != api.OK {
		t.Fatalf("P12.2: Turn, %s, of %.3000s: the tree is %.3000s, %v, want %.3000s", name, tell(s), tellTree(y), err, tellTree(x))
	}
	if ran, n, err := dom.Run(s, l); tell(ran) != tell(u) || n != len(l) || err != api.OK {
		t.Fatalf("P12.1: Turn, %s, of %.3000s, is not what Run makes of Diff: %.3000s, but %.3000s, %d, %v", name, tell(s), tell(u), tell(ran), n, err)
	}
	if again, err := diff.Diff(u, x); len(again) != 0 || err != api.OK {
		t.Fatalf("P12.3: Diff of a display and its tree, %s, %.3000s: %.3000s, %v", name, tell(u), tellPatches(again), err)
	}
	if again, err := diff.Turn(u, x); tell(again) != tell(u) || err != api.OK {
		t.Fatalf("P12.3: Turn of a display and its tree, %s, %.3000s: %.3000s, %v", name, tell(u), tell(again), err)
	}
	mustKeep(t, name, s, x, u)
	mustNumber(t, name, s, l, u)
	mustLeave(t, name, s, u)
}

// mustKeep holds that paired nodes, from the root on, have their IDs, and that all others of the tree have new ones.
func mustKeep(t *testing.T, name string, s dom.State, x api.Tree, u dom.State) {
	t.Helper()
	var walk func(id, pair int, x api.Tree)
	walk = func(id, pair int, x api.Tree) {
		if pair != 0 && id != pair || pair == 0 && id < s.Next {
			t.Fatalf("P12.4: Turn, %s, of %.3000s: %s is %d, its pair was %d", name, tell(s), tellTree(x), id, pair)
		}
		pairs := make([]int, len(x.Kids))
		if pair != 0 {
			pairs = pairsOf(s, node(s, pair).Kids, x.Kids)
		}
		for place, kid := range node(u, id).Kids {
			walk(kid, pairs[place], x.Kids[place])
		}
	}
	pair := 0
	if s.Root != 0 && fits(*node(s, s.Root), x) {
		pair = s.Root
	}
	walk(u.Root, pair, x)
}

// mustNumber holds that new IDs are from Next on, in the order of the patches.
func mustNumber(t *testing.T, name string, s dom.State, l []dom.Patch, u dom.State) {
	t.Helper()
	next := s.Next
	for _, p := range l {
		if p.What == 1 {
			if p.ID != next {
				t.Fatalf("P12.1: Diff, %s, of %.3000s: %d is created where %d is next", name, tell(s), p.ID, next)
			}
			next++
		}
	}
	if u.Next != next {
		t.Fatalf("P12.1: Turn, %s, of %.3000s: Next is %d, want %d", name, tell(s), u.Next, next)
	}
}

// mustLeave holds that nodes outside of the root's tree are as they were, and that none is there but those and the tree's.
func mustLeave(t *testing.T, name string, s, u dom.State) {
	t.Helper()
	old, now := outside(s), outside(u)
	if tell(display(0, 0, old...)) != tell(display(0, 0, now...)) {
		t.Fatalf("P12.2: Turn, %s, of %.3000s: beside the tree there is %.3000s", name, tell(s), tell(u))
	}
}

// outside are the nodes that are not in the root's tree.
func outside(s dom.State) []dom.Node {
	inside := map[int]bool{s.Root: s.Root != 0}
	var walk func(id int)
	walk = func(id int) {
		for _, kid := range node(s, id).Kids {
			inside[kid] = true
			walk(kid)
		}
	}
	if s.Root != 0 {
		walk(s.Root)
	}
	return slices.DeleteFunc(slices.Clone(s.Nodes), func(n dom.Node) bool { return inside[n.ID] })
}

// TestOneTreeAndItself: no patches, whatever tree it is, and how ever its display came to be.
func TestOneTreeAndItself(t *testing.T) {
	r := chanceOf(1203)
	trees := []api.Tree{part("p"), great(), down(deepest, part("p")), down(deepest, words("")), part("p", make([]api.Tree, treeFan)...), {Tag: "p", Attrs: manyAttrs(named)}}
	for range 300 {
		trees = append(trees, r.tree(1))
	}
	for _, x := range trees {
		made, err := diff.Turn(dom.New(), x)
		if err != api.OK || tell(made) != tell(build(x)) {
			t.Fatalf("P12.2: Turn of nothing to %s: %s, %v", tellTree(x), tell(made), err)
		}
		for _, s := range []dom.State{made, filled(made, 5), display(1, lastNext, made.Nodes...)} {
			if l, err := diff.Diff(s, x); len(l) != 0 || err != api.OK {
				t.Fatalf("P12.3: Diff of %s and itself: %s, %v", tellTree(x), tellPatches(l), err)
			}
		}
	}
}

// TestByChance: displays and trees by chance, each held against the slow way; the tree is often near to that of the display.
func TestByChance(t *testing.T) {
	r := chanceOf(1201)
	met, patches := map[string]int{}, map[int]int{}
	for range 3000 {
		s := r.display(r.Intn(30))
		if r.Intn(3) == 0 {
			s = filled(build(r.tree(1)), r.Intn(3))
		}
		x := r.tree(1)
		if r.Intn(4) > 0 {
			x = r.changed(s)
		}
		if _, err := dom.Tree(s); err == api.ErrDeep {
			met["deep"]++
			mustRefuse(t, "by chance", s, x, api.ErrDeep)
			continue
		}
		mustTurn(t, "by chance", s, x)
		l, _ := diff.Diff(s, x)
		switch {
		case s.Root == 0:
			met["no root"]++
		case !fits(*node(s, s.Root), x):
			met["another root"]++
		case len(l) == 0:
			met["no patches"]++
		default:
			met["patches"]++
		}
		for _, p := range l {
			patches[p.What]++
		}
	}
	for _, what := range []string{"deep", "no root", "another root", "no patches", "patches"} {
		if met[what] < 40 {
			t.Errorf("the tests' own chance is one-sided: %v", met)
		}
	}
	for what := 1; what <= 7; what++ {
		if patches[what] < 200 {
			t.Errorf("the tests' own chance is one-sided: %v", patches)
		}
	}
}

// TestFromTreeToTree: one display goes from tree to tree, and its numbers go on.
func TestFromTreeToTree(t *testing.T) {
	r := chanceOf(1202)
	for range 40 {
		s := dom.New()
		for range 30 {
			x := r.changed(s)
			mustTurn(t, "from tree to tree", s, x)
			s, _ = diff.Turn(s, x)
		}
	}
}

// TestOrdersByChance: many kids with keys in another order, some gone and some new: no more are hung anew than must be.
func TestOrdersByChance(t *testing.T) {
	r := chanceOf(1204)
	for range 700 {
		n := 1 + r.Intn(treeFan)
		old, now := part("p"), part("p")
		for i := range n {
			old.Kids = append(old.Kids, key("k"+strconv.Itoa(i)))
		}
		for _, i := range r.order(n) {
			if r.Intn(6) > 0 {
				now.Kids = append(now.Kids, key("k"+strconv.Itoa(i)))
			} else if r.Intn(2) == 0 {
				now.Kids = append(now.Kids, key("n"+strconv.Itoa(i)))
			}
		}
		s := build(old)
		mustTurn(t, "an order", s, now)
		l, _ := diff.Diff(s, now)
		hung := 0
		for _, p := range l {
			if p.What == 2 && p.ID < s.Next {
				hung++
			}
		}
		pairs := pairsOf(s, s.Nodes[0].Kids, now.Kids)
		paired := len(slices.DeleteFunc(slices.Clone(pairs), func(id int) bool { return id == 0 }))
		if must := paired - len(staying(s.Nodes[0].Kids, pairs)); hung != must {
			t.Fatalf("P12.1: Diff of %s to %s hangs %d anew, %d must be", tellTree(old), tellTree(now), hung, must)
		}
	}
}

// TestAllOrders: every order of up to five kids, with a new one in every place.
func TestAllOrders(t *testing.T) {
	for n := 1; n <= 5; n++ {
		letters := "abcde"[:n]
		s := rooted(keys(letters)...)
		var put func(done, rest string)
		put = func(done, rest string) {
			if rest == "" {
				mustTurn(t, "every order", s, part("p", keys(done)...))
				for at := range n + 1 {
					mustTurn(t, "every order with a new one", s, part("p", keys(done[:at]+"x"+done[at:])...))
				}
			}
			for i := range rest {
				put(done+rest[i:i+1], rest[:i]+rest[i+1:])
			}
		}
		put("", letters)
	}
}

// TestWideDisplays: nodes with up to 32 kids, many of one Key, to trees of up to 16 kids.
func TestWideDisplays(t *testing.T) {
	r := chanceOf(1205)
	for range 300 {
		s := display(1, 2, el(1, 0, "p"))
		for range r.Intn(fan + 1) {
			n := r.node(s.Next)
			n.Parent = 1
			s.Nodes = append(s.Nodes, n)
			s.Nodes[0].Kids = slices.Insert(s.Nodes[0].Kids, r.Intn(len(s.Nodes[0].Kids)+1), n.ID)
			s.Next++
		}
		x := part("p")
		for range r.Intn(treeFan + 1) {
			n := r.node(1)
			x.Kids = append(x.Kids, api.Tree{Tag: n.Tag, Key: n.Key, Text: n.Text, Attrs: n.Attrs})
		}
		mustTurn(t, "a wide display", s, unlike(x))
	}
}

func TestGreatDisplays(t *testing.T) {
	for name, s := range map[string]dom.State{"of 1024 nodes": wide(), "of a great tree": build(great()), "1000 deep beside the root": display(1001, 1002, append(deep(1000).Nodes, el(1001, 0, "b"))...)} {
		for _, x := range []api.Tree{part("p"), part("b"), part("p", part("b"), part("b", words("x")))} {
			mustTurn(t, name, s, x)
		}
	}
	turned := great()
	slices.Reverse(turned.Kids)
	for i := range turned.Kids {
		slices.Reverse(turned.Kids[i].Kids)
	}
	mustTurn(t, "a great tree the other way round", build(great()), turned)
}
