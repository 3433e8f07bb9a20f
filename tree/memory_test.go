package tree_test

import (
	"slices"
	"sync"
	"testing"
	"unsafe"

	"fanlight/api"
	"fanlight/tree"
)

// roomy is t in memory of its own, with room behind each list, into which a careless call could write.
func roomy(t api.Tree) api.Tree {
	t.Attrs = append(slices.Clone(t.Attrs), api.Attr{Name: "room", Value: "behind"})[:len(t.Attrs)]
	kids := make([]api.Tree, 0, len(t.Kids)+2)
	for _, kid := range t.Kids {
		kids = append(kids, roomy(kid))
	}
	t.Kids = kids
	return t
}

// widened is t with its lists to their whole capacity.
func widened(t api.Tree) api.Tree {
	t.Attrs = t.Attrs[:cap(t.Attrs)]
	var kids []api.Tree
	for _, kid := range t.Kids[:cap(t.Kids)] {
		kids = append(kids, widened(kid))
	}
	t.Kids = kids
	return t
}

// behind tells t and what lies behind the last of its lists.
func behind(t api.Tree) string {
	return tell(widened(t))
}

// askAll makes every call of the package with t.
func askAll(t api.Tree) {
	tree.Check(t)
	tree.Size(t)
	tree.Print(t)
	tree.Texts(t)
	tree.Same(t, t)
	tree.Same(t, el("p"))
	tree.Same(el("p"), t)
}

func TestAskingChangesNothing(t *testing.T) {
	l := may()
	for _, c := range append(mayNot(), twoFaults()...) {
		if !endless(c.tree, 0) {
			l = append(l, c.tree)
		}
	}
	for _, w := range l {
		x := roomy(w)
		was := behind(x)
		askAll(x)
		if behind(x) != was {
			t.Errorf("P9.4: asking has changed %.2000s", tell(w))
		}
	}
}

// TestTreesThatShareAreAsked: kids that lie twice in one tree, or in both trees, are met each time.
func TestTreesThatShareAreAsked(t *testing.T) {
	kids := []api.Tree{keyed("b", "k"), text("x")}
	x := el("p", el("b", kids...), el("b", kids...))
	if n, d, err := tree.Size(x); n != 7 || d != 3 || err != api.OK {
		t.Errorf("P9.1: Size of a tree whose kids share: %d, %d, %v", n, d, err)
	}
	if s, err := tree.Texts(x); s != "xx" || err != api.OK {
		t.Errorf("P9.2: Texts of a tree whose kids share: %q, %v", s, err)
	}
	if !tree.Same(x, clone(x)) || tree.Same(x.Kids[0], x) {
		t.Error("P9.1: Same of trees that share")
	}
}

// within tells whether s lies in memory of a text of t.
func within(s string, t api.Tree) bool {
	from := uintptr(unsafe.Pointer(unsafe.StringData(s)))
	inside := func(x string) bool {
		at := uintptr(unsafe.Pointer(unsafe.StringData(x)))
		return x != "" && s != "" && at < from+uintptr(len(s)) && from < at+uintptr(len(x))
	}
	of := func(a api.Attr) bool { return inside(a.Name) || inside(a.Value) }
	return inside(t.Tag) || inside(t.Key) || inside(t.Text) || slices.ContainsFunc(t.Attrs, of) || slices.ContainsFunc(t.Kids, func(kid api.Tree) bool { return within(s, kid) })
}

func TestAnswersShareNothing(t *testing.T) {
	for _, x := range may() {
		a, _ := tree.Print(x)
		b, _ := tree.Texts(x)
		if within(a, x) || within(b, x) {
			t.Errorf("P9.4: Print or Texts of %s shares memory with it", tell(x))
		}
		c, _ := tree.Print(x)
		d, _ := tree.Texts(x)
		if within(a, el(c)) || within(b, el(d)) {
			t.Errorf("P9.4: two answers of Print or Texts of %s share memory", tell(x))
		}
	}
}

// TestAnswersStayWhenTheTreeChanges: what was answered is kept nowhere, and keeps nothing.
func TestAnswersStayWhenTheTreeChanges(t *testing.T) {
	x := keyed("p", "k", text("a"), el("b", text("c")))
	x.Attrs = []api.Attr{{Name: "a", Value: "1"}}
	before, _ := tree.Print(x)
	x.Key, x.Attrs[0].Value, x.Kids[0].Text, x.Kids[1].Kids[0].Text = "m", "2", "d", "e"
	after, _ := tree.Print(x)
	if before != `<p key="k" a="1">a<b>c</b></p>` || after != `<p key="m" a="2">d<b>e</b></p>` {
		t.Errorf("P9.4: Print ahead of a change and behind it: %q, %q", before, after)
	}
	if s, _ := tree.Texts(x); s != "de" {
		t.Errorf("P9.4: Texts behind a change: %q", s)
	}
	x.Kids[1].Kids[0].Tag = "B"
	if err := tree.Check(x); err != api.ErrState {
		t.Errorf("P9.4: Check behind a change: %v", err)
	}
}

// TestAnswersAreOnceForAll: P3: what is answered hangs on the arguments alone, not on calls ahead nor on those at the same time.
func TestAnswersAreOnceForAll(t *testing.T) {
	l := may()
	var want []string
	for _, x := range l {
		s, _ := tree.Print(x)
		want = append(want, s)
	}
	var all sync.WaitGroup
	for range 4 {
		all.Go(func() {
			for i, x := range l {
				askAll(withinItself(fan))
				if s, err := tree.Print(x); s != want[i] || err != api.OK {
					t.Errorf("P3: Print(%s) is not the same twice", tell(x))
				}
			}
		})
	}
	all.Wait()
}
