package hydrate_test

import (
	"testing"

	"fanlight/api"
	"fanlight/diff"
	"fanlight/dom"
	"fanlight/hydrate"
)

// few is from which depth on a tree is made by chance, so that it has few nodes.
const few = 5

// TestByChance: P13.2, P13.4: whatever the display was.
func TestByChance(t *testing.T) {
	r := chanceOf(1301)
	met := map[string]int{}
	for range 3000 {
		s := r.display(r.Intn(30))
		if r.Intn(3) == 0 {
			s = beside(build(r.tree(1)), r.display(r.Intn(9)))
		}
		x := r.tree(1)
		if r.Intn(4) > 0 {
			x = r.changed(s)
		}
		if r.Intn(12) == 0 {
			s = build(x)
		}
		mustHydrate(t, "by chance", s, x)
		a, _ := slowly(s, x)
		_, deep := dom.Tree(s)
		for what, is := range map[string]bool{
			"no root": s.Root == 0, "deep": deep == api.ErrDeep, "deep, and loose ones": deep == api.ErrDeep && len(a.loose) > 0,
			"none loose": len(a.loose) == 0, "one loose": len(a.loose) == 1, "many loose": len(a.loose) > 3,
			"all kept": len(a.kept) == len(s.Nodes), "none kept": len(a.kept) == 0, "some kept": len(a.kept) > 1 && len(a.kept) < len(s.Nodes),
			"no patches": len(a.patches) == 0,
		} {
			if is {
				met[what]++
			}
		}
	}
	if len(met) != 10 {
		t.Errorf("the tests' own chance is one-sided: %v", met)
	}
	for _, n := range met {
		if n < 60 {
			t.Errorf("the tests' own chance is one-sided: %v", met)
		}
	}
}

// beginnings are s, and what it is behind each beginning of l.
func beginnings(t *testing.T, s dom.State, l []dom.Patch) []dom.State {
	t.Helper()
	states := []dom.State{s}
	for _, p := range l {
		u, err := dom.Apply(states[len(states)-1], p)
		if err != api.OK {
			t.Fatalf("P10.1: Apply, a patch of %.2000s: %v", tellPatches(l), err)
		}
		states = append(states, u)
	}
	return states
}

// TestBeginningsOfDiff: P13.3: a display that was on its way to one tree, to that one, to the one ahead and to another.
func TestBeginningsOfDiff(t *testing.T) {
	r := chanceOf(1302)
	loose := 0
	for range 80 {
		s := build(r.tree(few))
		if r.Intn(3) == 0 {
			s = r.display(r.Intn(20))
		}
		old, err := dom.Tree(s)
		if err != api.OK {
			old = r.tree(few)
		}
		now := r.changed(s)
		if r.Intn(4) == 0 {
			now = r.tree(few)
		}
		l, err := diff.Diff(s, now)
		if err == api.ErrDeep {
			continue
		}
		for _, u := range beginnings(t, s, l) {
			mustHydrate(t, "on its way, to its end", u, now)
			mustHydrate(t, "on its way, to another tree", u, r.changed(u))
			if mayBe(old) {
				mustHydrate(t, "on its way, back", u, old)
			}
			if ids, _ := hydrate.Loose(u); len(ids) > 0 {
				loose++
			}
		}
	}
	if loose < 300 {
		t.Errorf("the tests' own chance is one-sided: %d", loose)
	}
}

// mayBe tells of the tree of a display, whose Keys or size may be too many.
func mayBe(x api.Tree) bool {
	_, err := dom.Build(x)
	return err == api.OK
}

// TestBeginningsOfHydrate: a crash while it is hydrated, and again and again: in the end it is the tree.
func TestBeginningsOfHydrate(t *testing.T) {
	r := chanceOf(1303)
	for range 120 {
		s, x := r.display(r.Intn(20)), r.tree(few)
		l, _ := hydrate.Patches(s, x)
		for _, u := range beginnings(t, s, l) {
			mustHydrate(t, "a crash on the way", u, x)
		}
		for range 5 {
			l, _ := hydrate.Patches(s, x)
			states := beginnings(t, s, l)
			s = states[r.Intn(len(states))]
		}
		mustHydrate(t, "crash behind crash", s, x)
	}
}

// TestBeginningsInAFullDisplay: a node that was made and hangs nowhere takes the last room, or the last number.
func TestBeginningsInAFullDisplay(t *testing.T) {
	s, x := crowd(most-1), part("p", part("b"), key("n"))
	l, err := diff.Diff(s, x)
	if err != api.OK {
		t.Fatalf("P12.1: Diff: %v", err)
	}
	for _, u := range beginnings(t, s, l) {
		mustHydrate(t, "on its way in a full display", u, x)
	}
	s, x = build(part("p")), part("p", words("x"))
	s.Next = lastNext - 1
	l, err = diff.Diff(s, x)
	if err != api.OK || len(l) != 2 {
		t.Fatalf("P12.1: Diff: %s, %v", tellPatches(l), err)
	}
	states := beginnings(t, s, l)
	mustHydrate(t, "ahead of the last number", states[0], x)
	mustRefuse(t, "the last number is loose", states[1], x, api.ErrFull)
	mustHydrate(t, "the last number is hung", states[2], x)
}

// TestFromTreeToTree: one display goes from tree to tree, with crashes between, and its numbers go on.
func TestFromTreeToTree(t *testing.T) {
	r := chanceOf(1304)
	for range 30 {
		s := dom.New()
		for range 25 {
			x := r.changed(s)
			mustHydrate(t, "from tree to tree", s, x)
			l, _ := hydrate.Patches(s, x)
			states := beginnings(t, s, l)
			s = states[len(states)-1]
			if r.Intn(2) == 0 {
				s = states[r.Intn(len(states))]
			}
		}
	}
}

func TestGreatTrees(t *testing.T) {
	s := build(great())
	mustHydrate(t, "a great tree to itself", s, great())
	mustHydrate(t, "a great tree beside 768 loose nodes", filled(s, most-256), great())
	mustHydrate(t, "a great tree beside four", beside(s, display(0, 769, crowd(768).Nodes...)), great())
	mustHydrate(t, "a great tree, loose, and again", display(0, s.Next, s.Nodes...), great())
}
