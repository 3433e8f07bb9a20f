package diff_test

import (
	"math"
	"slices"
	"strings"
	"sync"
	"testing"
	"unsafe"

	"fanlight/api"
	"fanlight/diff"
	"fanlight/dom"
)

// span is memory, from its first octet to behind its last.
type span struct {
	from, to uintptr
}

// spanOf is the memory of l, to its whole capacity.
func spanOf[T any](l []T) []span {
	if cap(l) == 0 {
		return nil
	}
	var one T
	from := uintptr(unsafe.Pointer(unsafe.SliceData(l)))
	return []span{{from, from + uintptr(cap(l))*unsafe.Sizeof(one)}}
}

// spansOf are the memory of s's lists, and of the lists within them.
func spansOf(s dom.State) []span {
	spans := spanOf(s.Nodes)
	for _, n := range s.Nodes {
		spans = append(append(spans, spanOf(n.Attrs)...), spanOf(n.Kids)...)
	}
	return spans
}

func spansOfTree(t api.Tree) []span {
	spans := append(spanOf(t.Attrs), spanOf(t.Kids)...)
	for _, kid := range t.Kids {
		spans = append(spans, spansOfTree(kid)...)
	}
	return spans
}

// overlap tells whether two of the spans lie in one memory.
func overlap(lists ...[]span) bool {
	spans := slices.Concat(lists...)
	slices.SortFunc(spans, func(a, b span) int { return int(a.from) - int(b.from) })
	for i := 1; i < len(spans); i++ {
		if spans[i].from < spans[i-1].to {
			return true
		}
	}
	return false
}

// roomy is s in memory of its own, with room behind each list, into which a careless call could write.
func roomy(s dom.State) dom.State {
	nodes := make([]dom.Node, 0, len(s.Nodes)+2)
	for _, n := range s.Nodes {
		n.Attrs = append(slices.Clone(n.Attrs), api.Attr{Name: "room", Value: "behind"})[:len(n.Attrs)]
		n.Kids = append(slices.Clone(n.Kids), -77, -77)[:len(n.Kids)]
		nodes = append(nodes, n)
	}
	s.Nodes = append(nodes, text(-78, 0, "room"))[:len(nodes)]
	return s
}

// behind tells s and what lies in the rooms behind its lists.
func behind(s dom.State) string {
	s.Nodes = slices.Clone(s.Nodes[:cap(s.Nodes)])
	for i, n := range s.Nodes {
		s.Nodes[i].Attrs, s.Nodes[i].Kids = n.Attrs[:cap(n.Attrs)], n.Kids[:cap(n.Kids)]
	}
	return tell(s)
}

func roomyTree(t api.Tree) api.Tree {
	t.Attrs = append(slices.Clone(t.Attrs), api.Attr{Name: "room", Value: "behind"})[:len(t.Attrs)]
	kids := make([]api.Tree, 0, len(t.Kids)+2)
	for _, kid := range t.Kids {
		kids = append(kids, roomyTree(kid))
	}
	t.Kids = append(kids, words("room"))[:len(kids)]
	return t
}

func behindTree(t api.Tree) string {
	var s strings.Builder
	s.WriteString(tellTree(api.Tree{Tag: t.Tag, Key: t.Key, Text: t.Text, Attrs: t.Attrs[:cap(t.Attrs)]}))
	for _, kid := range t.Kids[:cap(t.Kids)] {
		s.WriteString(behindTree(kid))
	}
	return s.String()
}

// scribble changes all that can be changed of s, and what lies behind its lists.
func scribble(s dom.State) {
	for i, n := range s.Nodes[:cap(s.Nodes)] {
		for j := range n.Attrs[:cap(n.Attrs)] {
			n.Attrs[:cap(n.Attrs)][j] = api.Attr{Name: "scribbled", Value: "scribbled"}
		}
		for j := range n.Kids[:cap(n.Kids)] {
			n.Kids[:cap(n.Kids)][j] = -9
		}
		s.Nodes[:cap(s.Nodes)][i] = text(-9, -9, "scribbled")
	}
}

func scribbleTree(t api.Tree) {
	for i := range t.Attrs[:cap(t.Attrs)] {
		t.Attrs[:cap(t.Attrs)][i] = api.Attr{Name: "scribbled", Value: "scribbled"}
	}
	for i, kid := range t.Kids[:cap(t.Kids)] {
		scribbleTree(kid)
		t.Kids[:cap(t.Kids)][i] = words("scribbled")
	}
}

func scribblePatches(l []dom.Patch) {
	for i := range l[:cap(l)] {
		l[:cap(l)][i] = dom.Patch{What: -9, Text: "scribbled"}
	}
}

// couple is a display and a tree.
type couple struct {
	state dom.State
	tree  api.Tree
}

// couples are many of them, with each error and with none.
func couples() []couple {
	r := chanceOf(1207)
	var l []couple
	for range 150 {
		s := r.display(r.Intn(30))
		l = append(l, couple{s, r.changed(s)}, couple{s, r.tree(1)})
	}
	for _, s := range badDisplays() {
		l = append(l, couple{s, part("p")})
	}
	for name, bad := range badTrees() {
		if name != "within itself" {
			l = append(l, couple{build(part("p", words("x"), key("k"))), bad.tree})
		}
	}
	abc := rooted(keys("abc")...)
	return append(l, couple{dom.New(), great()}, couple{wide(), part("p")}, couple{wide(), part("b", words("x"))}, couple{deep(9), part("p")},
		couple{filled(abc, most-4), part("p", keys("abcd")...)}, couple{abc, part("p", keys("cab")...)}, couple{abc, part("p", keys("cxba")...)}, couple{build(great()), great()})
}

// TestNothingIsSharedOrChanged: nor does a change elsewhere come through.
func TestNothingIsSharedOrChanged(t *testing.T) {
	for _, c := range couples() {
		s, x := roomy(c.state), roomyTree(c.tree)
		was, treeWas := behind(s), behindTree(x)
		l, _ := diff.Diff(s, x)
		again, _ := diff.Diff(s, x)
		u, _ := diff.Turn(s, x)
		v, _ := diff.Turn(s, x)
		if len(s.Nodes) > 0 {
			diff.Fits(s.Nodes[0], x)
		}
		if overlap(spanOf(l), spanOf(again), spansOf(u), spansOf(v), spansOf(s), spansOfTree(x)) {
			t.Fatalf("P12.5: answers of %.2000s and %.2000s share memory", tell(c.state), tellTree(c.tree))
		}
		if behind(s) != was || behindTree(x) != treeWas {
			t.Fatalf("P12.5: %.2000s or %.2000s was changed", tell(c.state), tellTree(c.tree))
		}
		patches, told := slices.Clone(l), tell(u)
		scribble(s)
		scribble(v)
		scribbleTree(x)
		scribblePatches(again)
		if !slices.Equal(l, patches) || tell(u) != told {
			t.Fatalf("P12.5: a change elsewhere has changed an answer of %.2000s and %.2000s", tell(c.state), tellTree(c.tree))
		}
		scribble(u)
		scribblePatches(l)
		if now, _ := diff.Diff(c.state, c.tree); !slices.Equal(now, patches) {
			t.Fatalf("P12.5: a change of answers has changed the next one of %.2000s and %.2000s", tell(c.state), tellTree(c.tree))
		}
	}
}

// TestWhatIsHandedInMayShare: lists that lie side by side in one memory, or are one, are not written into.
func TestWhatIsHandedInMayShare(t *testing.T) {
	ids := []int{2, 3, 4, 5, 6, 7}
	one := attrs("a", "1")
	s := display(1, 8, el(1, 0, "p"), keyed(el(2, 1, "i"), "a"), keyed(el(3, 1, "i"), "b"), text(4, 2, "x"), el(5, 2, "b"), text(6, 3, "y"), el(7, 3, "b"))
	s.Nodes[0].Kids, s.Nodes[1].Kids, s.Nodes[2].Kids = ids[:2], ids[2:4], ids[4:]
	s.Nodes[1].Attrs, s.Nodes[2].Attrs = one, one
	inner := []api.Tree{having(part("b"), "n", "1"), words("z"), key("k")}
	x := part("p", key("b", inner...), key("c", inner...), key("a", inner...))
	x.Kids[0].Attrs, x.Kids[2].Attrs = one, one
	mustTurn(t, "lists that share", s, x)
	u, err := diff.Turn(s, x)
	if err != api.OK || overlap(spansOf(u), spanOf(ids), spanOf(one), spanOf(inner)) {
		t.Errorf("P12.5: Turn of lists that share: %s, %v", tell(u), err)
	}
	if !slices.Equal(ids, []int{2, 3, 4, 5, 6, 7}) || !slices.Equal(one, attrs("a", "1")) {
		t.Errorf("P12.5: lists that share were changed: %v, %v", ids, one)
	}
}

// TestAnswersAreOnceForAll: P3: what is answered hangs on the arguments alone, not on calls ahead nor on those at the same time, nor on whether lists are nil or empty.
func TestAnswersAreOnceForAll(t *testing.T) {
	l := couples()
	var want [][]dom.Patch
	for _, c := range l {
		patches, _ := diff.Diff(c.state, c.tree)
		want = append(want, patches)
	}
	var all sync.WaitGroup
	for range 4 {
		all.Go(func() {
			for i, c := range l {
				patches, err := diff.Diff(c.state, c.tree)
				others, otherErr := diff.Diff(full(c.state), fullTree(c.tree))
				if !slices.Equal(patches, want[i]) || !slices.Equal(others, want[i]) || err != otherErr {
					t.Errorf("P3: Diff of %.2000s and %.2000s is not the same twice", tell(c.state), tellTree(c.tree))
				}
			}
		})
	}
	all.Wait()
}

// TestWhateverIsGiven: P1: displays and trees that were spoilt by chance: an answer, and of an error nothing beside it.
func TestWhateverIsGiven(t *testing.T) {
	r := chanceOf(1208)
	odd := []int{math.MinInt, -1 << 31, -1, 0, 1, 2, 3, lastNext, 1 << 31, math.MaxInt}
	met := map[api.Errno]int{}
	for range 4000 {
		s, x := r.display(1+r.Intn(12)), r.tree(1)
		number := odd[r.Intn(len(odd))]
		n := &s.Nodes[r.Intn(len(s.Nodes))]
		switch r.Intn(9) {
		case 0:
			s.Next = number
		case 1:
			s.Root = number
		case 2:
			n.ID = number
		case 3:
			n.Parent = number
		case 4:
			n.Kids = append(n.Kids, number)
		case 5:
			n.Tag = r.of("", "P", "a", "b")
		case 6:
			x.Kids = append(x.Kids, key("k"), key("k"))
		case 7:
			x.Tag = r.of("", "P", "a", "b")
		case 8:
			x.Kids = append(x.Kids, x)
			x.Kids[len(x.Kids)-1].Kids = x.Kids
		}
		l, err := diff.Diff(s, x)
		u, turned := diff.Turn(s, x)
		met[err]++
		if err != turned || err != api.OK && (len(l) != 0 || tell(u) != "root 0 next 0") {
			t.Fatalf("P1, P4: Diff: %s, %v; Turn: %s, %v", tellPatches(l), err, tell(u), turned)
		}
	}
	for _, err := range []api.Errno{api.OK, api.ErrState, api.ErrTwice, api.ErrDeep} {
		if met[err] < 30 {
			t.Errorf("the tests' own chance is one-sided: %v", met)
		}
	}
}
