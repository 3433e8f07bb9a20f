package tree_test

import (
	"strings"
	"testing"

	"fanlight/api"
	"fanlight/tree"
)

func TestCheckLetsPassWhatMayBe(t *testing.T) {
	for _, x := range may() {
		if err := tree.Check(x); err != api.OK {
			t.Errorf("P9.1: Check(%s): %v, want OK", tell(x), err)
		}
	}
}

func TestCheckRefusesWhatMayNotBe(t *testing.T) {
	for _, c := range mayNot() {
		if err := tree.Check(c.tree); err != c.err {
			t.Errorf("P9.1: Check, %s: %v, want %v", c.name, err, c.err)
		}
	}
}

// TestCheckOfARootThatIsAText: whatever else it has, or lacks.
func TestCheckOfARootThatIsAText(t *testing.T) {
	for name, root := range map[string]api.Tree{
		"nothing":                       {},
		"a text of 128 octets":          text(strings.Repeat("x", written)),
		"a text of 129 octets":          text(strings.Repeat("x", written+1)),
		"with a Key":                    {Key: "k", Text: "x"},
		"with an attribute":             {Text: "x", Attrs: []api.Attr{{Name: "a"}}},
		"with a kid":                    {Kids: []api.Tree{el("b")}},
		"with kids of one Key":          {Kids: []api.Tree{keyed("b", "k"), keyed("b", "k")}},
		"with one too deep":             {Kids: []api.Tree{down(deepest, el("b"))}},
		"with too many":                 {Kids: []api.Tree{ofNodes(most)}},
		"with 17 kids":                  {Kids: make([]api.Tree, fan+1)},
		"with itself in it":             {Kids: []api.Tree{withinItself(fan)}},
		"with empty lists, and no more": full(api.Tree{}),
	} {
		if err := tree.Check(root); err != api.ErrState {
			t.Errorf("P9.1: Check of a root that is a text, %s: %v, want ErrState", name, err)
		}
	}
}

// twoFaults are trees with more than one fault, each with the one that comes first.
func twoFaults() []refused {
	bad, tooDeep, tooMany := el("B"), down(deepest, el("b")), ofNodes(most)
	twins := []api.Tree{keyed("b", "k"), keyed("b", "k")}
	chain := func(last api.Tree) api.Tree { // last is the 257th node and the ninth of nodes within each other
		x := ofNodes(most + 1 - deepest)
		x.Kids = append(x.Kids, down(deepest, last))
		return x
	}
	ahead := func(t api.Tree, kids ...api.Tree) api.Tree {
		t.Kids = append(kids, t.Kids...)
		return t
	}
	behindAll := func(t, kid api.Tree) api.Tree {
		t.Kids = append(t.Kids, kid)
		return t
	}
	return []refused{
		{"the ninth, which may not be", down(deepest+1, bad), api.ErrDeep},
		{"the ninth, a text that may not be", down(deepest+1, api.Tree{Key: "k"}), api.ErrDeep},
		{"the ninth, whose kids have one Key", down(deepest+1, el("b", twins...)), api.ErrDeep},
		{"the eighth, which may not be, with a ninth", down(deepest, ahead(bad, el("b"))), api.ErrState},
		{"the eighth, whose kids have one Key", down(deepest, el("b", twins...)), api.ErrTwice},
		{"the 257th, which may not be", lastOf(most+1, bad), api.ErrCount},
		{"the 257th, a text that may not be", lastOf(most+1, api.Tree{Text: "x", Key: "k"}), api.ErrCount},
		{"the 257th, whose kids have one Key", lastOf(most+1, el("b", twins...)), api.ErrCount},
		{"the 257th, which is the ninth", chain(el("b")), api.ErrDeep},
		{"the 257th, which is the ninth and may not be", chain(bad), api.ErrDeep},
		{"the 256th, which may not be, and one behind", behindAll(lastOf(most, bad), text("")), api.ErrState},
		{"the 256th, and one behind which may not be", behindAll(lastOf(most, el("b")), bad), api.ErrCount},
		{"the 256th, whose kids have one Key", lastOf(most, el("b", twins...)), api.ErrTwice},
		{"a node that may not be, whose kids have one Key", ahead(bad, twins...), api.ErrState},
		{"an element with a Text, whose kids have one Key", api.Tree{Tag: "p", Text: "x", Kids: twins}, api.ErrState},
		{"17 kids, two of one Key", ahead(manyKids(fan-1), twins...), api.ErrState},
		{"16 kids, two of one Key", ahead(manyKids(fan-2), twins...), api.ErrTwice},
		{"kids of one Key, the first of which may not be", el("p", keyed("B", "k"), keyed("b", "k")), api.ErrTwice},
		{"kids of one Key, which is too long", el("p", keyed("b", strings.Repeat("k", longest+1)), keyed("b", strings.Repeat("k", longest+1))), api.ErrTwice},
		{"kids of one Key, one of them a text", el("p", keyed("b", "k"), api.Tree{Key: "k", Text: "x"}), api.ErrTwice},
		{"kids of one Key, both texts", el("p", api.Tree{Key: "k"}, api.Tree{Key: "k"}), api.ErrTwice},
		{"kids of one Key behind one that may not be", el("p", bad, twins[0], twins[1]), api.ErrTwice},
		{"kids of one Key behind one too deep", el("p", tooDeep, twins[0], twins[1]), api.ErrTwice},
		{"kids of one Key behind too many", el("p", tooMany, twins[0], twins[1]), api.ErrTwice},
		{"a kid that may not be, then a kid's kids of one Key", el("p", bad, el("b", twins...)), api.ErrState},
		{"a kid's kids of one Key, then a kid that may not be", el("p", el("b", twins...), bad), api.ErrTwice},
		{"a kid's kid that may not be, then a kid that may not be by its kids' Keys", el("p", el("b", bad), el("b", twins...)), api.ErrState},
		{"one too deep, then one that may not be", el("p", tooDeep, bad), api.ErrDeep},
		{"one that may not be, then one too deep", el("p", bad, tooDeep), api.ErrState},
		{"one too deep, then too many", el("p", tooDeep, tooMany), api.ErrDeep},
		{"too many, then one too deep", el("p", tooMany, tooDeep), api.ErrCount},
		{"too many, then one that may not be", el("p", tooMany, bad), api.ErrCount},
		{"one that may not be, then too many", el("p", bad, tooMany), api.ErrState},
		{"too many, then kids of one Key", el("p", tooMany, el("b", twins...)), api.ErrCount},
		{"kids of one Key, then too many", el("p", el("b", twins...), tooMany), api.ErrTwice},
		{"one too deep, then kids of one Key", el("p", tooDeep, el("b", twins...)), api.ErrDeep},
		{"kids of one Key, then one too deep", el("p", el("b", twins...), tooDeep), api.ErrTwice},
		{"a root that may not be, with one too deep", ahead(bad, tooDeep), api.ErrState},
		{"a root that may not be, with too many", ahead(bad, tooMany), api.ErrState},
	}
}

func TestCheckTellsTheFirst(t *testing.T) {
	for _, c := range twoFaults() {
		if want := firstFault(c.tree); want != c.err {
			t.Fatalf("the test's own tree is not what it takes it for: %s: %v", c.name, want)
		}
		if err := tree.Check(c.tree); err != c.err {
			t.Errorf("P9.1: Check, %s: %v, want %v", c.name, err, c.err)
		}
	}
}

// TestCheckByChance: against the chapter's words, of trees with one fault and with several.
func TestCheckByChance(t *testing.T) {
	r := chanceOf(91)
	met := map[api.Errno]int{}
	for range 12000 {
		x := r.spoilt(r.element(1))
		for range r.Intn(3) {
			x = r.spoilt(x)
		}
		want := firstFault(x)
		met[want]++
		if err := tree.Check(x); err != want {
			t.Fatalf("P9.1: Check(%.2000s): %v, want %v", tell(x), err, want)
		}
	}
	for _, err := range []api.Errno{api.OK, api.ErrState, api.ErrDeep, api.ErrCount, api.ErrTwice} {
		if met[err] < 100 {
			t.Errorf("the test's own trees have %v only %d times", err, met[err])
		}
	}
}

// TestCheckOfEachOctet: which octets a Tag and a Name may have, at each place.
func TestCheckOfEachOctet(t *testing.T) {
	for octet := range 256 {
		want := api.ErrState
		if octet >= 'a' && octet <= 'z' {
			want = api.OK
		}
		for _, around := range [][2]string{{"", ""}, {"m", ""}, {"", "m"}, {"m", "m"}, {strings.Repeat("m", longest-1), ""}} {
			s := around[0] + string([]byte{byte(octet)}) + around[1]
			if err := tree.Check(el(s)); err != want {
				t.Errorf("P9.1: Check, Tag %q: %v, want %v", s, err, want)
			}
			if err := tree.Check(with(s, "v")); err != want {
				t.Errorf("P9.1: Check, Name %q: %v, want %v", s, err, want)
			}
			if err := tree.Check(el("p", keyed("b", s), text(s), with("a", s))); err != api.OK {
				t.Errorf("P9.1: Check, Key, Text and Value %q: %v, want OK", s, err)
			}
		}
	}
}

func TestSize(t *testing.T) {
	for _, c := range []struct {
		name  string
		tree  api.Tree
		nodes int
		depth int
	}{
		{"an element", el("p"), 1, 1},
		{"an element with much in it", keyed("p", "k"), 1, 1},
		{"16 attributes", manyAttrs(fan), 1, 1},
		{"a text within", el("p", text("x")), 2, 2},
		{"an empty text within", el("p", text("")), 2, 2},
		{"an element within", el("p", el("b")), 2, 2},
		{"deep first", el("p", el("b", el("i")), text("x")), 4, 3},
		{"deep last", el("p", text("x"), text("y"), el("b", el("i", text("z")))), 6, 4},
		{"deep in the middle", el("p", text("x"), el("b", text("y")), text("z")), 4 + 1, 3},
		{"7 deep", down(deepest-1, text("x")), 7, 7},
		{"8 deep", down(deepest, el("b")), 8, 8},
		{"8 deep, a text", down(deepest, text("x")), 8, 8},
		{"16 kids", manyKids(fan), 17, 2},
		{"255 nodes", ofNodes(most - 1), 255, 3},
		{"256 nodes", ofNodes(most), 256, 3},
	} {
		for _, x := range []api.Tree{c.tree, bare(c.tree), full(c.tree)} {
			if n, d, err := tree.Size(x); n != c.nodes || d != c.depth || err != api.OK {
				t.Errorf("P9.1: Size, %s: %d, %d, %v, want %d, %d, OK", c.name, n, d, err, c.nodes, c.depth)
			}
		}
	}
	for _, x := range may() {
		nodes, depths := inOrder(x, 1)
		deep := 0
		for _, d := range depths {
			deep = max(deep, d)
		}
		if n, d, err := tree.Size(x); n != len(nodes) || d != deep || err != api.OK {
			t.Errorf("P9.1: Size(%s): %d, %d, %v, want %d, %d, OK", tell(x), n, d, err, len(nodes), deep)
		}
	}
}

// TestOthersCheckFirst: Check's error is theirs, and beside it nothing is answered.
func TestOthersCheckFirst(t *testing.T) {
	for _, c := range append(mayNot(), twoFaults()...) {
		if n, d, err := tree.Size(c.tree); n != 0 || d != 0 || err != c.err {
			t.Errorf("P9.1, P4: Size, %s: %d, %d, %v, want 0, 0, %v", c.name, n, d, err, c.err)
		}
		if s, err := tree.Print(c.tree); s != "" || err != c.err {
			t.Errorf("P9.2, P4: Print, %s: %.200q, %v, want none, %v", c.name, s, err, c.err)
		}
		if s, err := tree.Texts(c.tree); s != "" || err != c.err {
			t.Errorf("P9.2, P4: Texts, %s: %.200q, %v, want none, %v", c.name, s, err, c.err)
		}
	}
}

func TestSame(t *testing.T) {
	l := may()
	told := make([]string, len(l))
	for i, x := range l {
		told[i] = tell(x)
	}
	for i, a := range l {
		for j, b := range l {
			if one := told[i] == told[j]; tree.Same(a, b) != one {
				t.Errorf("P9.1: Same(%s, %s): %v", told[i], told[j], !one)
			}
		}
		if !tree.Same(a, clone(a)) || !tree.Same(bare(a), full(a)) || !tree.Same(full(a), bare(a)) {
			t.Errorf("P9.1, P1: Same(%s, a copy of it): false", told[i])
		}
	}
}

// TestSameFindsOneChange: each field of each node counts.
func TestSameFindsOneChange(t *testing.T) {
	whole := func() api.Tree {
		x := keyed("p", "k", text("a"), keyed("b", "m", text("c"), el("i")), text(""))
		x.Attrs = []api.Attr{{Name: "a", Value: "1"}, {Name: "b", Value: "2"}}
		x.Kids[1].Attrs = []api.Attr{{Name: "c", Value: "3"}}
		return x
	}
	for name, change := range map[string]func(x *api.Tree){
		"the Tag":                func(x *api.Tree) { x.Tag = "q" },
		"the Tag's length":       func(x *api.Tree) { x.Tag = "pp" },
		"the Key":                func(x *api.Tree) { x.Key = "K" },
		"no Key":                 func(x *api.Tree) { x.Key = "" },
		"a Name":                 func(x *api.Tree) { x.Attrs[1].Name = "c" },
		"a Value":                func(x *api.Tree) { x.Attrs[0].Value = "" },
		"the last Value":         func(x *api.Tree) { x.Attrs[1].Value = "3" },
		"an attribute less":      func(x *api.Tree) { x.Attrs = x.Attrs[:1] },
		"no attributes":          func(x *api.Tree) { x.Attrs = nil },
		"an attribute more":      func(x *api.Tree) { x.Attrs = append(x.Attrs, api.Attr{Name: "c"}) },
		"a text":                 func(x *api.Tree) { x.Kids[0].Text = "b" },
		"a text of no octets":    func(x *api.Tree) { x.Kids[0].Text = "" },
		"a text's last octet":    func(x *api.Tree) { x.Kids[0].Text = "a\x00" },
		"an element for a text":  func(x *api.Tree) { x.Kids[0] = el("a") },
		"a text for an element":  func(x *api.Tree) { x.Kids[1] = text("b") },
		"a kid less":             func(x *api.Tree) { x.Kids = x.Kids[:2] },
		"no kids":                func(x *api.Tree) { x.Kids = nil },
		"a kid more":             func(x *api.Tree) { x.Kids = append(x.Kids, text("")) },
		"kids in another order":  func(x *api.Tree) { x.Kids[0], x.Kids[2] = x.Kids[2], x.Kids[0] },
		"a kid's Tag":            func(x *api.Tree) { x.Kids[1].Tag = "i" },
		"a kid's Key":            func(x *api.Tree) { x.Kids[1].Key = "k" },
		"a kid's Value":          func(x *api.Tree) { x.Kids[1].Attrs[0].Value = "4" },
		"a kid's text":           func(x *api.Tree) { x.Kids[1].Kids[0].Text = "d" },
		"a kid's kid's Tag":      func(x *api.Tree) { x.Kids[1].Kids[1].Tag = "j" },
		"a kid's kid less":       func(x *api.Tree) { x.Kids[1].Kids = x.Kids[1].Kids[:1] },
		"a kid's kids as its":    func(x *api.Tree) { x.Kids = append(x.Kids, x.Kids[1].Kids...); x.Kids[1].Kids = nil },
		"the same, one level up": func(x *api.Tree) { *x = el("p", *x) },
	} {
		changed := whole()
		change(&changed)
		if tree.Check(changed) != api.OK {
			t.Fatalf("the test's own tree may not be: %s", name)
		}
		if tree.Same(whole(), changed) || tree.Same(changed, whole()) || !tree.Same(changed, clone(changed)) {
			t.Errorf("P9.1: Same of two trees, unlike in this: %s", name)
		}
	}
}

// TestSameOfWhatMayNotBe: false, even of one and itself.
func TestSameOfWhatMayNotBe(t *testing.T) {
	wrong := append(mayNot(), twoFaults()...)
	for i, c := range wrong {
		for _, other := range []api.Tree{c.tree, el("p"), wrong[(i+7)%len(wrong)].tree} {
			if tree.Same(c.tree, other) || tree.Same(other, c.tree) {
				t.Errorf("P9.1: Same with %s: true", c.name)
			}
		}
		if !endless(c.tree, 0) && tree.Same(c.tree, clone(c.tree)) {
			t.Errorf("P9.1: Same of %s and a copy: true", c.name)
		}
	}
}
