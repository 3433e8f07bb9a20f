package dom_test

import (
	"slices"
	"strings"
	"sync"
	"testing"
	"unsafe"

	"fanlight/api"
	"fanlight/dom"
)

// span is memory, from its first octet to behind its last.
type span struct {
	from, to uintptr
}

// spanOf is the memory of l, to its whole capacity.
func spanOf[T any](l []T) []span {
	if cap(l) == 0 {
		return nil
	}
	var one T
	from := uintptr(unsafe.Pointer(unsafe.SliceData(l)))
	return []span{{from, from + uintptr(cap(l))*unsafe.Sizeof(one)}}
}

// spansOf are the memory of s's lists, and of the lists within them.
func spansOf(s dom.State) []span {
	spans := spanOf(s.Nodes)
	for _, n := range s.Nodes {
		spans = append(append(spans, spanOf(n.Attrs)...), spanOf(n.Kids)...)
	}
	return spans
}

func spansOfTree(t api.Tree) []span {
	spans := append(spanOf(t.Attrs), spanOf(t.Kids)...)
	for _, kid := range t.Kids {
		spans = append(spans, spansOfTree(kid)...)
	}
	return spans
}

// overlap tells whether two of the spans lie in one memory.
func overlap(lists ...[]span) bool {
	spans := slices.Concat(lists...)
	slices.SortFunc(spans, func(a, b span) int { return int(a.from) - int(b.from) })
	for i := 1; i < len(spans); i++ {
		if spans[i].from < spans[i-1].to {
			return true
		}
	}
	return false
}

// roomy is s in memory of its own, with room behind each list, into which a careless call could write.
func roomy(s dom.State) dom.State {
	nodes := make([]dom.Node, 0, len(s.Nodes)+2)
	for _, n := range s.Nodes {
		n.Attrs = append(slices.Clone(n.Attrs), api.Attr{Name: "room", Value: "behind"})[:len(n.Attrs)]
		n.Kids = append(slices.Clone(n.Kids), -77)[:len(n.Kids)]
		nodes = append(nodes, n)
	}
	s.Nodes = append(nodes, text(-78, 0, "room"))[:len(nodes)]
	return s
}

// behind tells s and what lies in the rooms behind its lists.
func behind(s dom.State) string {
	s.Nodes = slices.Clone(s.Nodes[:cap(s.Nodes)])
	for i, n := range s.Nodes {
		s.Nodes[i].Attrs, s.Nodes[i].Kids = n.Attrs[:cap(n.Attrs)], n.Kids[:cap(n.Kids)]
	}
	return tell(s)
}

func roomyTree(t api.Tree) api.Tree {
	t.Attrs = append(slices.Clone(t.Attrs), api.Attr{Name: "room", Value: "behind"})[:len(t.Attrs)]
	kids := make([]api.Tree, 0, len(t.Kids)+2)
	for _, kid := range t.Kids {
		kids = append(kids, roomyTree(kid))
	}
	t.Kids = append(kids, words("room"))[:len(kids)]
	return t
}

func behindTree(t api.Tree) string {
	var s strings.Builder
	s.WriteString(tellTree(api.Tree{Tag: t.Tag, Key: t.Key, Text: t.Text, Attrs: t.Attrs[:cap(t.Attrs)]}))
	for _, kid := range t.Kids[:cap(t.Kids)] {
		s.WriteString(behindTree(kid))
	}
	return s.String()
}

// scribble changes all that can be changed of s, and what lies behind its lists.
func scribble(s dom.State) {
	for i, n := range s.Nodes[:cap(s.Nodes)] {
		for j := range n.Attrs[:cap(n.Attrs)] {
			n.Attrs[:cap(n.Attrs)][j] = api.Attr{Name: "scribbled", Value: "scribbled"}
		}
		for j := range n.Kids[:cap(n.Kids)] {
			n.Kids[:cap(n.Kids)][j] = -9
		}
		s.Nodes[:cap(s.Nodes)][i] = text(-9, -9, "scribbled")
	}
}

func scribbleTree(t api.Tree) {
	for i := range t.Attrs[:cap(t.Attrs)] {
		t.Attrs[:cap(t.Attrs)][i] = api.Attr{Name: "scribbled", Value: "scribbled"}
	}
	for i, kid := range t.Kids[:cap(t.Kids)] {
		scribbleTree(kid)
		t.Kids[:cap(t.Kids)][i] = words("scribbled")
	}
}

// mustBeAlone holds that two answers of a call share nothing with each other, nor within themselves, nor with the display, that this has stayed, and that a change elsewhere does not come through.
func mustBeAlone(t *testing.T, name string, given dom.State, call func(dom.State) dom.State) {
	t.Helper()
	s := roomy(given)
	was := behind(s)
	first, second := call(s), call(s)
	if overlap(spansOf(first), spansOf(second), spansOf(s)) {
		t.Fatalf("P10.5: %s of %.2000s shares memory", name, tell(given))
	}
	if behind(s) != was {
		t.Fatalf("P10.5: %s of %.2000s has changed the display", name, tell(given))
	}
	told := tell(first)
	scribble(s)
	scribble(second)
	if tell(first) != told {
		t.Fatalf("P10.5: %s of %.2000s: a change elsewhere has changed the answer", name, tell(given))
	}
}

func TestApplyAndRunShareNothing(t *testing.T) {
	apply := func(p dom.Patch) func(s dom.State) dom.State {
		return func(s dom.State) dom.State {
			x, _ := dom.Apply(s, p)
			return x
		}
	}
	run := func(l []dom.Patch) func(s dom.State) dom.State {
		return func(s dom.State) dom.State {
			x, _, _ := dom.Run(s, l)
			return x
		}
	}
	for _, c := range allDone() {
		mustBeAlone(t, "Apply of "+tellPatch(c.patch), c.state, apply(c.patch))
		mustBeAlone(t, "Run of "+tellPatch(c.patch), c.state, run([]dom.Patch{c.patch}))
		mustBeAlone(t, "Run up to a refused one of "+tellPatch(c.patch), c.state, run([]dom.Patch{c.patch, {}}))
	}
	for _, c := range allRefused() {
		mustBeAlone(t, "Apply", c.state, apply(c.patch))
		mustBeAlone(t, "Run", c.state, run([]dom.Patch{c.patch}))
	}
	for _, s := range may() {
		mustBeAlone(t, "Run of nothing", s, run(nil))
	}
	for _, s := range mayNot() {
		mustBeAlone(t, "Apply", s, apply(dom.Patch{What: 3, ID: 1}))
		mustBeAlone(t, "Run", s, run([]dom.Patch{{What: 3, ID: 1}}))
	}
}

// TestLongRunsShareNothing: many patches, one behind the other, by which lists grow, shrink and are moved.
func TestLongRunsShareNothing(t *testing.T) {
	r := chanceOf(1060)
	for range 60 {
		start := r.display(1 + r.Intn(20))
		var l []dom.Patch
		now := start
		for range 80 {
			p := r.patch(now)
			if x, err := dom.Apply(now, p); err == api.OK {
				l, now = append(l, p), x
			}
		}
		if len(l) < 20 {
			t.Fatalf("P10.1: of 80 patches only %d are taken", len(l))
		}
		roomyList := append(slices.Clone(l), dom.Patch{Tag: "room"})[:len(l)]
		mustBeAlone(t, "Run", start, func(s dom.State) dom.State {
			x, _, _ := dom.Run(s, roomyList)
			return x
		})
		if !slices.Equal(roomyList, l) || roomyList[:len(l)+1][len(l)] != (dom.Patch{Tag: "room"}) {
			t.Fatal("P10.5: Run has changed the patches")
		}
	}
}

// TestListsOfAnAnswerDoNotReachEachOther: what is put behind one list is not to be seen in another.
func TestListsOfAnAnswerDoNotReachEachOther(t *testing.T) {
	s, err := dom.Build(greatTree())
	if err != api.OK {
		t.Fatal(err)
	}
	for at := range s.Nodes {
		before := clone(s)
		_ = append(s.Nodes[at].Kids, 1, 2, 3)
		_ = append(s.Nodes[at].Attrs, api.Attr{Name: "a"})
		if tell(before) != tell(s) {
			t.Fatalf("P10.5: Build: what was put behind a list of node %d is seen elsewhere", at+1)
		}
	}
}

func TestTreeSharesNothing(t *testing.T) {
	for name, given := range may() {
		s := roomy(given)
		was := behind(s)
		first, _ := dom.Tree(s)
		second, _ := dom.Tree(s)
		if overlap(spansOfTree(first), spansOfTree(second), spansOf(s)) {
			t.Fatalf("P10.5: Tree, %s, shares memory", name)
		}
		dom.Check(s)
		if behind(s) != was {
			t.Fatalf("P10.5: Tree or Check, %s, has changed the display", name)
		}
		told := tellTree(first)
		scribble(s)
		scribbleTree(second)
		if tellTree(first) != told {
			t.Fatalf("P10.5: Tree, %s: a change elsewhere has changed the answer", name)
		}
	}
	for name, given := range mayNot() {
		s := roomy(given)
		was := behind(s)
		dom.Check(s)
		dom.Tree(s)
		if behind(s) != was {
			t.Fatalf("P10.5: Tree or Check, %s, has changed the display", name)
		}
	}
}

func TestBuildSharesNothing(t *testing.T) {
	for _, given := range trees() {
		x := roomyTree(given)
		was := behindTree(x)
		first, _ := dom.Build(x)
		second, _ := dom.Build(x)
		if overlap(spansOf(first), spansOf(second), spansOfTree(x)) {
			t.Fatalf("P10.5: Build(%s) shares memory", tellTree(given))
		}
		if behindTree(x) != was {
			t.Fatalf("P10.5: Build has changed %s", tellTree(given))
		}
		told := tell(first)
		scribbleTree(x)
		scribble(second)
		if tell(first) != told {
			t.Fatalf("P10.5: Build(%s): a change elsewhere has changed the answer", tellTree(given))
		}
	}
}

// TestWhatIsHandedInMayShare: lists that lie twice in what is handed in do not in what is answered.
func TestWhatIsHandedInMayShare(t *testing.T) {
	attrs := []api.Attr{{Name: "a", Value: "1"}}
	inner := []api.Tree{words("x"), {Tag: "i", Attrs: attrs}}
	s, err := dom.Build(part("p", api.Tree{Tag: "b", Attrs: attrs, Kids: inner}, api.Tree{Tag: "b", Attrs: attrs, Kids: inner}))
	if err != api.OK || overlap(spansOf(s)) {
		t.Errorf("P10.5: Build of kids that share: %s, %v", tell(s), err)
	}
	two := display(1, 3, dom.Node{ID: 1, Tag: "p", Attrs: attrs}, dom.Node{ID: 2, Tag: "p", Attrs: attrs})
	x, err := dom.Apply(two, dom.Patch{What: 4, ID: 1, Name: "a", Value: "2"})
	if err != api.OK || overlap(spansOf(x), spansOf(display(0, 1, two.Nodes[0]))) || x.Nodes[1].Attrs[0].Value != "1" || attrs[0].Value != "1" {
		t.Errorf("P10.5: Apply of nodes that share: %s, %v", tell(x), err)
	}
}

// TestNewIsNew: a change of one answer is not seen in the next.
func TestNewIsNew(t *testing.T) {
	s := dom.New()
	s.Nodes = append(s.Nodes, el(1, 0, "p"))
	s.Next, s.Root = 2, 1
	if x := dom.New(); tell(x) != "root 0 next 1" {
		t.Errorf("P10.5: New behind a change of another: %s", tell(x))
	}
}

// TestAnswersAreOnceForAll: P3: what is answered hangs on the arguments alone, not on calls ahead nor on those at the same time, nor on whether lists are nil or empty.
func TestAnswersAreOnceForAll(t *testing.T) {
	l := allDone()
	var want []string
	for _, c := range l {
		s, _ := dom.Apply(c.state, c.patch)
		want = append(want, tell(s))
	}
	var all sync.WaitGroup
	for range 4 {
		all.Go(func() {
			for i, c := range l {
				dom.Check(ring(3, 0))
				dom.Tree(c.state)
				if s, err := dom.Apply(c.state, c.patch); tell(s) != want[i] || err != api.OK {
					t.Errorf("P3: Apply of %s is not the same twice", tellPatch(c.patch))
				}
			}
		})
	}
	all.Wait()
}
