package diff_test

import (
	"math"
	"slices"
	"strings"
	"testing"

	"fanlight/api"
	"fanlight/diff"
	"fanlight/dom"
)

func TestFits(t *testing.T) {
	long := strings.Repeat("k", 200)
	for _, c := range []struct {
		name string
		node dom.Node
		tree api.Tree
		want bool
	}{
		{"two texts", text(1, 0, "x"), words("x"), true},
		{"texts with unlike Texts", text(1, 0, "x"), words("y"), true},
		{"nothing and nothing", dom.Node{}, api.Tree{}, true},
		{"a text with a Key, one without", keyed(text(1, 0, "x"), "k"), words("x"), false},
		{"a text without a Key, one with", text(1, 0, "x"), api.Tree{Key: "k", Text: "x"}, false},
		{"texts with one Key", keyed(text(1, 0, "x"), "k"), api.Tree{Key: "k", Text: "x"}, false},
		{"texts with unlike Keys", keyed(text(1, 0, "x"), "k"), api.Tree{Key: "m", Text: "x"}, false},
		{"a text and an element", text(1, 0, ""), part("p"), false},
		{"an element and a text", el(1, 0, "p"), words(""), false},
		{"an element and a text with one Key", keyed(el(1, 0, "p"), "k"), api.Tree{Key: "k"}, false},
		{"a text and an element with one Key", keyed(text(1, 0, ""), "k"), key("k"), false},
		{"elements with one Tag", el(1, 0, "p"), part("p"), true},
		{"elements with one Tag and one Key", keyed(el(1, 0, "i"), "k"), key("k"), true},
		{"elements with one Tag and unlike Keys", keyed(el(1, 0, "i"), "k"), key("m"), false},
		{"elements with one Tag, the node with a Key", keyed(el(1, 0, "i"), "k"), part("i"), false},
		{"elements with one Tag, the tree with a Key", el(1, 0, "i"), key("k"), false},
		{"elements with one Key and unlike Tags", keyed(el(1, 0, "b"), "k"), key("k"), false},
		{"elements with unlike Tags", el(1, 0, "b"), part("i"), false},
		{"elements with unlike Tags, one the other's beginning", el(1, 0, "b"), part("bb"), false},
		{"Tag and Key the other way round", keyed(el(1, 0, "a"), "b"), api.Tree{Tag: "b", Key: "a"}, false},
		{"Tag and Key, one behind the other, alike", keyed(el(1, 0, "a"), "bc"), api.Tree{Tag: "ab", Key: "c"}, false},
		{"unlike attributes", with(el(1, 0, "p"), "a", "1"), having(part("p"), "b", "2"), true},
		{"unlike kids", el(1, 0, "p", 2, 3), part("p", words("x")), true},
		{"unlike Texts of elements", dom.Node{Tag: "p", Text: "x"}, api.Tree{Tag: "p", Text: "y"}, true},
		{"texts with attributes and kids", dom.Node{Attrs: attrs("a", "1"), Kids: []int{7}}, api.Tree{Kids: []api.Tree{part("p")}}, true},
		{"Tags that may not be", el(1, 0, "A B"), part("A B"), true},
		{"Tags that may not be, unlike", el(1, 0, "A B"), part("a b"), false},
		{"Keys that may not be", keyed(el(1, 0, "i"), long), key(long), true},
		{"Keys that may not be, unlike at last", keyed(el(1, 0, "i"), long), key(long[1:] + "l"), false},
		{"odd numbers", dom.Node{ID: math.MinInt, Parent: math.MaxInt, Tag: "p", Kids: []int{-1}}, part("p"), true},
	} {
		if got := diff.Fits(c.node, c.tree); got != c.want {
			t.Errorf("P12.1: Fits, %s: %v", c.name, got)
		}
	}
}

// TestFitsOfAny: all of a few Tags, Keys and Texts against each other.
func TestFitsOfAny(t *testing.T) {
	some := []string{"", "a", "b", "ab", "\x00", " "}
	for _, tag := range some {
		for _, otherTag := range some {
			for _, k := range some {
				for _, otherKey := range some {
					for _, s := range []string{"", "x"} {
						n, x := dom.Node{ID: 4, Tag: tag, Key: k, Text: s}, api.Tree{Tag: otherTag, Key: otherKey}
						if got := diff.Fits(n, x); got != fits(n, x) {
							t.Fatalf("P12.1: Fits(%s, %s): %v", tell(display(0, 1, n)), tellTree(x), got)
						}
					}
				}
			}
		}
	}
}

// badDisplays are displays that may not be, some of them with a root's tree that is too deep, or with too many nodes.
func badDisplays() map[string]dom.State {
	spoilt := func(s dom.State, do func(s *dom.State)) dom.State {
		s = clone(s)
		do(&s)
		return s
	}
	small := build(part("p", words("x"), key("k", words("y"))))
	return map[string]dom.State{
		"nothing at all":              {},
		"Next below 0":                display(0, -1),
		"Next 2^31":                   display(0, lastNext+1),
		"the highest Next":            display(0, math.MaxInt),
		"1025 nodes":                  filled(small, most+1-4),
		"an ID that is Next":          spoilt(small, func(s *dom.State) { s.Next-- }),
		"an ID of 0":                  display(0, 2, text(0, 0, "x")),
		"IDs out of order":            display(0, 9, text(2, 0, "x"), text(1, 0, "x")),
		"an ID twice":                 display(0, 9, el(1, 0, "p"), el(1, 0, "p")),
		"a Root that is none":         spoilt(small, func(s *dom.State) { s.Root = 9 }),
		"a Root below 0":              spoilt(small, func(s *dom.State) { s.Root = -1 }),
		"a Root that is a text":       display(1, 2, text(1, 0, "x")),
		"a Root that has a Parent":    spoilt(small, func(s *dom.State) { s.Root = 3 }),
		"a kid that is none":          spoilt(small, func(s *dom.State) { s.Nodes[0].Kids[0] = 7 }),
		"a kid twice":                 spoilt(small, func(s *dom.State) { s.Nodes[0].Kids = []int{2, 3, 2} }),
		"a kid with another Parent":   spoilt(small, func(s *dom.State) { s.Nodes[1].Parent = 3 }),
		"a Parent that is none":       display(0, 3, text(1, 2, "x")),
		"a node within itself":        display(0, 2, el(1, 1, "p", 1)),
		"two within each other":       display(0, 3, el(1, 2, "p", 2), el(2, 1, "p", 1)),
		"a ring beside the root":      display(1, 4, el(1, 0, "p"), el(2, 3, "p", 3), el(3, 2, "p", 2)),
		"33 kids":                     tooWide(),
		"a text with a Key":           display(0, 2, keyed(text(1, 0, "x"), "k")),
		"an element with a Text":      display(1, 2, dom.Node{ID: 1, Tag: "p", Text: "x"}),
		"a long Text":                 display(0, 2, text(1, 0, strings.Repeat("x", 129))),
		"Names out of order":          display(1, 2, with(el(1, 0, "p"), "b", "", "a", "")),
		"a Tag":                       display(1, 2, el(1, 0, "P")),
		"9 deep, and a Tag":           spoilt(deep(9), func(s *dom.State) { s.Nodes[8].Tag = "P" }),
		"1024 deep, and Next too low": spoilt(deep(most), func(s *dom.State) { s.Next = 5 }),
		"1024 nodes, and a long Key":  spoilt(wide(), func(s *dom.State) { s.Nodes[0].Key = strings.Repeat("k", 17) }),
	}
}

func tooWide() dom.State {
	s := display(1, fan+3, el(1, 0, "p"))
	for i := range fan + 1 {
		s.Nodes[0].Kids = append(s.Nodes[0].Kids, i+2)
		s.Nodes = append(s.Nodes, text(i+2, 1, ""))
	}
	return s
}

type badTree struct {
	tree api.Tree
	err  api.Errno
}

// badTrees are trees that may not be.
func badTrees() map[string]badTree {
	tooMany := great()
	tooMany.Kids = append(tooMany.Kids, words(""))
	itself := part("p", words(""))
	itself.Kids[0] = itself
	return map[string]badTree{
		"no tree at all":           {api.Tree{}, api.ErrState},
		"a text":                   {words("x"), api.ErrState},
		"9 deep":                   {down(deepest+1, part("p")), api.ErrDeep},
		"within itself":            {itself, api.ErrDeep},
		"257 nodes":                {tooMany, api.ErrCount},
		"17 kids":                  {part("p", make([]api.Tree, treeFan+1)...), api.ErrState},
		"a Tag":                    {part("p", part("P")), api.ErrState},
		"a root's Tag":             {part("P"), api.ErrState},
		"a long Key":               {part("p", key(strings.Repeat("k", 17))), api.ErrState},
		"a long Text":              {part("p", words(strings.Repeat("x", 129))), api.ErrState},
		"a text with a Key":        {part("p", api.Tree{Key: "k", Text: "x"}), api.ErrState},
		"Names out of order":       {having(part("p"), "b", "", "a", ""), api.ErrState},
		"17 attributes":            {part("p", api.Tree{Tag: "b", Attrs: manyAttrs(named + 1)}), api.ErrState},
		"a Key twice":              {part("p", key("k"), key("k")), api.ErrTwice},
		"a Key twice, unlike Tags": {part("p", key("k"), api.Tree{Tag: "b", Key: "k"}), api.ErrTwice},
		"a Key twice, deeper":      {part("p", part("p", part("p", key("k"), words(""), key("k")))), api.ErrTwice},
	}
}

// manyAttrs are so many attributes, aa, ab and on.
func manyAttrs(n int) []api.Attr {
	var l []api.Attr
	for i := range n {
		l = append(l, api.Attr{Name: "a" + string(rune('a'+i)), Value: "1"})
	}
	return l
}

// mustRefuse holds that both calls answer that error and beside it nothing.
func mustRefuse(t *testing.T, name string, s dom.State, x api.Tree, want api.Errno) {
	t.Helper()
	if l, err := diff.Diff(s, x); len(l) != 0 || err != want {
		t.Errorf("P12.1, P4: Diff, %s: %d patches, %v, want %v", name, len(l), err, want)
	}
	if u, err := diff.Turn(s, x); tell(u) != "root 0 next 0" || err != want {
		t.Errorf("P12.1, P4: Turn, %s: %.2000s, %v, want %v", name, tell(u), err, want)
	}
}

func TestDisplayThatMayNotBe(t *testing.T) {
	for name, s := range badDisplays() {
		if dom.Check(s) != api.ErrState {
			t.Fatalf("the tests' own display may be: %s", name)
		}
		mustRefuse(t, name, s, part("p"), api.ErrState)
		mustRefuse(t, name+", and a great tree", s, great(), api.ErrState)
		for other, bad := range badTrees() {
			mustRefuse(t, name+", and a tree: "+other, s, bad.tree, api.ErrState)
		}
	}
}

// TestTreeThatMayNotBe: of a display that may be, one that is too deep and one that is full among them: the tree's error goes ahead.
func TestTreeThatMayNotBe(t *testing.T) {
	for display, s := range map[string]dom.State{
		"no nodes": dom.New(), "a root": build(part("p")), "9 deep": deep(9), "1024 deep": deep(most), "1024 nodes": wide(),
		"the highest Next": {Next: lastNext}, "9 deep and 1024 nodes": filled(deep(9), most-9), "another root": build(part("b", words("x"))),
	} {
		for name, bad := range badTrees() {
			mustRefuse(t, name+", and a display: "+display, s, bad.tree, bad.err)
		}
	}
}

// TestTooDeep: the root's tree, whether it fits or not; no other's.
func TestTooDeep(t *testing.T) {
	behindOthers := func(n int) dom.State {
		s := deep(n)
		s.Nodes[0].Kids = []int{n + 1, n + 2, 2, n + 3}
		s.Nodes = append(s.Nodes, text(n+1, 1, "x"), el(n+2, 1, "b"), text(n+3, 1, "y"))
		s.Next = n + 4
		return s
	}
	// A text that is the ninth is too deep, too.
	endsInText := deep(9)
	endsInText.Nodes[8] = text(9, 8, "x")
	for name, s := range map[string]dom.State{
		"9 deep": deep(9), "10 deep": deep(10), "1024 deep": deep(most), "9 deep, a text": endsInText,
		"9 deep behind others": behindOthers(9), "9 deep, and full": filled(deep(9), most-9),
		"9 deep, and the highest Next": display(1, lastNext, deep(9).Nodes...),
	} {
		for of, x := range map[string]api.Tree{"that fits": part("p"), "that does not": part("b"), "8 deep": down(deepest, part("p")), "of 256 nodes": great()} {
			mustRefuse(t, name+", and a tree "+of, s, x, api.ErrDeep)
		}
	}
	for name, s := range map[string]dom.State{
		"8 deep": deep(8), "8 deep behind others": behindOthers(8),
		"9 deep, but loose":   display(10, 11, append(deep(9).Nodes, el(10, 0, "p"))...),
		"1000 deep, no Root":  display(0, 1001, deep(1000).Nodes...),
		"1000 deep, and root": display(1001, 1002, append(deep(1000).Nodes, el(1001, 0, "b"))...),
	} {
		for _, x := range []api.Tree{part("p"), part("b"), down(deepest, part("p")), down(deepest, words("x"))} {
			mustTurn(t, name, s, x)
		}
	}
}

// mustTurn holds a display and a tree of which nothing is refused against the slow way, and all that follows.
func mustTurn(t *testing.T, name string, s dom.State, x api.Tree) {
	t.Helper()
	want, behind, err := slowly(s, x)
	if err != api.OK {
		t.Fatalf("the tests' own display or tree, %s: %v", name, err)
	}
	l, err := diff.Diff(s, x)
	if !slices.Equal(l, want) || err != api.OK {
		t.Fatalf("P12.1: Diff, %s, of %.3000s, to %.3000s: %.3000s, %v, want %.3000s", name, tell(s), tellTree(x), tellPatches(l), err, tellPatches(want))
	}
	u, err := diff.Turn(s, x)
	if tell(u) != tell(behind) || err != api.OK {
		t.Fatalf("P12.1: Turn, %s, of %.3000s, to %.3000s: %.3000s, %v, want %.3000s", name, tell(s), tellTree(x), tell(u), err, tell(behind))
	}
	mustFollow(t, name, s, x, l, u)
}
