package hydrate_test

import (
	"math"
	"slices"
	"strings"
	"sync"
	"testing"
	"unsafe"

	"fanlight/api"
	"fanlight/dom"
	"fanlight/hydrate"
)

// span is memory, from its first octet to behind its last.
type span struct {
	from, to uintptr
}

// spanOf is the memory of l, to its whole capacity.
func spanOf[T any](l []T) []span {
	if cap(l) == 0 {
		return nil
	}
	var one T
	from := uintptr(unsafe.Pointer(unsafe.SliceData(l)))
	return []span{{from, from + uintptr(cap(l))*unsafe.Sizeof(one)}}
}

// spansOf are the memory of s's lists, and of the lists within them.
func spansOf(s dom.State) []span {
	spans := spanOf(s.Nodes)
	for _, n := range s.Nodes {
		spans = append(append(spans, spanOf(n.Attrs)...), spanOf(n.Kids)...)
	}
	return spans
}

func spansOfTree(t api.Tree) []span {
	spans := append(spanOf(t.Attrs), spanOf(t.Kids)...)
	for _, kid := range t.Kids {
		spans = append(spans, spansOfTree(kid)...)
	}
	return spans
}

// overlap tells whether two of the spans lie in one memory.
func overlap(lists ...[]span) bool {
	spans := slices.Concat(lists...)
	slices.SortFunc(spans, func(a, b span) int { return int(a.from) - int(b.from) })
	for i := 1; i < len(spans); i++ {
		if spans[i].from < spans[i-1].to {
			return true
		}
	}
	return false
}

// roomy is s in memory of its own, with room behind each list, into which a careless call could write.
func roomy(s dom.State) dom.State {
	nodes := make([]dom.Node, 0, len(s.Nodes)+2)
	for _, n := range s.Nodes {
		n.Attrs = append(slices.Clone(n.Attrs), api.Attr{Name: "room", Value: "behind"})[:len(n.Attrs)]
		n.Kids = append(slices.Clone(n.Kids), -77, -77)[:len(n.Kids)]
		nodes = append(nodes, n)
	}
	s.Nodes = append(nodes, text(-78, 0, "room"))[:len(nodes)]
	return s
}

// behind tells s and what lies in the rooms behind its lists.
func behind(s dom.State) string {
	s.Nodes = slices.Clone(s.Nodes[:cap(s.Nodes)])
	for i, n := range s.Nodes {
		s.Nodes[i].Attrs, s.Nodes[i].Kids = n.Attrs[:cap(n.Attrs)], n.Kids[:cap(n.Kids)]
	}
	return tell(s)
}

func roomyTree(t api.Tree) api.Tree {
	t.Attrs = append(slices.Clone(t.Attrs), api.Attr{Name: "room", Value: "behind"})[:len(t.Attrs)]
	kids := make([]api.Tree, 0, len(t.Kids)+2)
	for _, kid := range t.Kids {
		kids = append(kids, roomyTree(kid))
	}
	t.Kids = append(kids, words("room"))[:len(kids)]
	return t
}

func behindTree(t api.Tree) string {
	var s strings.Builder
	s.WriteString(tellTree(api.Tree{Tag: t.Tag, Key: t.Key, Text: t.Text, Attrs: t.Attrs[:cap(t.Attrs)]}))
	for _, kid := range t.Kids[:cap(t.Kids)] {
		s.WriteString(behindTree(kid))
	}
	return s.String()
}

// scribble changes all that can be changed of s, and what lies behind its lists.
func scribble(s dom.State) {
	for i, n := range s.Nodes[:cap(s.Nodes)] {
		scribbleAll(n.Attrs, api.Attr{Name: "scribbled", Value: "scribbled"})
		scribbleAll(n.Kids, -9)
		s.Nodes[:cap(s.Nodes)][i] = text(-9, -9, "scribbled")
	}
}

func scribbleTree(t api.Tree) {
	scribbleAll(t.Attrs, api.Attr{Name: "scribbled", Value: "scribbled"})
	for i, kid := range t.Kids[:cap(t.Kids)] {
		scribbleTree(kid)
		t.Kids[:cap(t.Kids)][i] = words("scribbled")
	}
}

func scribbleAll[T any](l []T, x T) {
	for i := range l[:cap(l)] {
		l[:cap(l)][i] = x
	}
}

// couple is a display and a tree.
type couple struct {
	state dom.State
	tree  api.Tree
}

// couples are many of them, with each error and with none.
func couples() []couple {
	r := chanceOf(1305)
	var l []couple
	for range 120 {
		s := r.display(r.Intn(30))
		l = append(l, couple{s, r.changed(s)}, couple{s, r.tree(1)})
	}
	for _, s := range badDisplays() {
		l = append(l, couple{s, part("p")})
	}
	for name, bad := range badTrees() {
		if name != "within itself" {
			l = append(l, couple{filled(build(part("p", words("x"), key("k"))), 2), bad.tree})
		}
	}
	great := great()
	return append(l, couple{dom.New(), great}, couple{build(great), great}, couple{filled(build(great), 9), great}, couple{deep(9), part("p")}, couple{filled(deep(9), 3), part("p", words("x"))},
		couple{crowd(most), part("p", part("b"), key("n"))}, couple{filled(crowd(most-1), 1), part("p", part("b"), key("n"))}, couple{beside(deep(8), deep(9)), down(deepest, part("p"))})
}

// answers are what all calls answer of one couple.
type answers struct {
	loose, kept []int
	patches     []dom.Patch
	hydrated    dom.State
	errs        [4]api.Errno
}

func answersOf(s dom.State, x api.Tree) answers {
	var a answers
	a.loose, a.errs[0] = hydrate.Loose(s)
	a.patches, a.errs[1] = hydrate.Patches(s, x)
	a.hydrated, a.errs[2] = hydrate.Hydrate(s, x)
	a.kept, a.errs[3] = hydrate.Kept(s, x)
	return a
}

func (a answers) spans() []span {
	return slices.Concat(spanOf(a.loose), spanOf(a.kept), spanOf(a.patches), spansOf(a.hydrated))
}

func (a answers) same(b answers) bool {
	return slices.Equal(a.loose, b.loose) && slices.Equal(a.kept, b.kept) && slices.Equal(a.patches, b.patches) && tell(a.hydrated) == tell(b.hydrated) && a.errs == b.errs
}

func (a answers) clone() answers {
	return answers{slices.Clone(a.loose), slices.Clone(a.kept), slices.Clone(a.patches), clone(a.hydrated), a.errs}
}

func (a answers) scribble() {
	scribbleAll(a.loose, -9)
	scribbleAll(a.kept, -9)
	scribbleAll(a.patches, dom.Patch{What: -9, Text: "scribbled"})
	scribble(a.hydrated)
}

// TestNothingIsSharedOrChanged: P13.5: nor does a change elsewhere come through.
func TestNothingIsSharedOrChanged(t *testing.T) {
	for _, c := range couples() {
		s, x := roomy(c.state), roomyTree(c.tree)
		was, treeWas := behind(s), behindTree(x)
		a, again := answersOf(s, x), answersOf(s, x)
		if overlap(a.spans(), again.spans(), spansOf(s), spansOfTree(x)) {
			t.Fatalf("P13.5: answers of %.2000s and %.2000s share memory", tell(c.state), tellTree(c.tree))
		}
		if behind(s) != was || behindTree(x) != treeWas {
			t.Fatalf("P13.5: %.2000s or %.2000s was changed", tell(c.state), tellTree(c.tree))
		}
		told := a.clone()
		scribble(s)
		scribbleTree(x)
		again.scribble()
		if !a.same(told) {
			t.Fatalf("P13.5: a change elsewhere has changed an answer of %.2000s and %.2000s", tell(c.state), tellTree(c.tree))
		}
		a.scribble()
		if now := answersOf(c.state, c.tree); !now.same(told) {
			t.Fatalf("P13.5: a change of answers has changed the next one of %.2000s and %.2000s", tell(c.state), tellTree(c.tree))
		}
	}
}

// TestWhatIsHandedInMayShare: P13.5: lists that lie side by side in one memory, or are one, are not written into.
func TestWhatIsHandedInMayShare(t *testing.T) {
	ids := []int{2, 3, 4, 5, 6, 7}
	one := attrs("a", "1")
	s := display(1, 9, el(1, 0, "p"), keyed(el(2, 1, "i"), "a"), keyed(el(3, 1, "i"), "b"), text(4, 2, "x"), el(5, 2, "b"), text(6, 3, "y"), el(7, 3, "b"), el(8, 0, "b"))
	s.Nodes[0].Kids, s.Nodes[1].Kids, s.Nodes[2].Kids = ids[:2], ids[2:4], ids[4:]
	s.Nodes[1].Attrs, s.Nodes[2].Attrs, s.Nodes[7].Attrs = one, one, one
	inner := []api.Tree{having(part("b"), "n", "1"), words("z"), key("k")}
	x := part("p", key("b", inner...), key("c", inner...), key("a", inner...))
	x.Kids[0].Attrs, x.Kids[2].Attrs = one, one
	mustHydrate(t, "lists that share", s, x)
	u, err := hydrate.Hydrate(s, x)
	if err != api.OK || overlap(spansOf(u), spanOf(ids), spanOf(one), spanOf(inner)) {
		t.Errorf("P13.5: Hydrate of lists that share: %s, %v", tell(u), err)
	}
	if !slices.Equal(ids, []int{2, 3, 4, 5, 6, 7}) || !slices.Equal(one, attrs("a", "1")) {
		t.Errorf("P13.5: lists that share were changed: %v, %v", ids, one)
	}
}

// TestAnswersAreOnceForAll: P3: what is answered hangs on the arguments alone, not on calls ahead nor on those at the same time, nor on whether lists are nil or empty.
func TestAnswersAreOnceForAll(t *testing.T) {
	l := couples()
	var want []answers
	for _, c := range l {
		want = append(want, answersOf(c.state, c.tree))
	}
	var all sync.WaitGroup
	for range 3 {
		all.Go(func() {
			for i, c := range l {
				if !answersOf(c.state, c.tree).same(want[i]) || !answersOf(full(c.state), fullTree(c.tree)).same(want[i]) {
					t.Errorf("P3: the answers of %.2000s and %.2000s are not the same twice", tell(c.state), tellTree(c.tree))
				}
			}
		})
	}
	all.Wait()
}

// TestWhateverIsGiven: P1: displays and trees that were spoilt by chance: an answer, and of an error nothing beside it.
func TestWhateverIsGiven(t *testing.T) {
	r := chanceOf(1306)
	odd := []int{math.MinInt, -1 << 31, -1, 0, 1, 2, 3, lastNext, 1 << 31, math.MaxInt}
	met := map[api.Errno]int{}
	for range 4000 {
		s, x := r.display(1+r.Intn(12)), r.tree(few)
		number := odd[r.Intn(len(odd))]
		n := &s.Nodes[r.Intn(len(s.Nodes))]
		switch r.Intn(9) {
		case 0:
			s.Next = number
		case 1:
			s.Root = number
		case 2:
			n.ID = number
		case 3:
			n.Parent = number
		case 4:
			n.Kids = append(n.Kids, number)
		case 5:
			n.Tag = r.of("", "P", "a", "b")
		case 6:
			x.Kids = append(x.Kids, key("k"), key("k"))
		case 7:
			x.Tag = r.of("", "P", "a", "b")
		case 8:
			x.Kids = append(x.Kids, x)
			x.Kids[len(x.Kids)-1].Kids = x.Kids
		}
		a := answersOf(s, x)
		met[a.errs[1]]++
		if a.errs[0] != dom.Check(s) || a.errs[2] != a.errs[1] || a.errs[3] != a.errs[1] {
			t.Fatalf("P13.1: the errors of %.2000s and %.2000s: %v", tell(s), tellTree(x), a.errs)
		}
		if a.errs[0] != api.OK && len(a.loose) != 0 || a.errs[1] != api.OK && (len(a.patches)+len(a.kept) != 0 || tell(a.hydrated) != "root 0 next 0") {
			t.Fatalf("P1, P4: beside an error of %.2000s and a tree: %v, %s, %s, %v", tell(s), a.loose, tellPatches(a.patches), tell(a.hydrated), a.kept)
		}
	}
	for _, err := range []api.Errno{api.OK, api.ErrState, api.ErrTwice, api.ErrDeep, api.ErrFull} {
		if met[err] < 30 {
			t.Errorf("the tests' own chance is one-sided: %v", met)
		}
	}
}
