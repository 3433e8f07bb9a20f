package tree_test

import (
	"math/rand"
	"regexp"
	"slices"
	"strconv"
	"strings"

	"fanlight/api"
)

const (
	deepest = 8   // nodes within each other
	most    = 256 // nodes of a tree
	fan     = 16  // kids, and attributes, of a node
	longest = 16  // octets of a Tag, a Key or a Name
	written = 128 // octets of a Text or a Value
)

func el(tag string, kids ...api.Tree) api.Tree {
	return api.Tree{Tag: tag, Kids: kids}
}

func keyed(tag, key string, kids ...api.Tree) api.Tree {
	return api.Tree{Tag: tag, Key: key, Kids: kids}
}

func text(s string) api.Tree {
	return api.Tree{Text: s}
}

// with is an element p with attributes, told as names and values by turns.
func with(words ...string) api.Tree {
	t := el("p")
	for i := 0; i < len(words); i += 2 {
		t.Attrs = append(t.Attrs, api.Attr{Name: words[i], Value: words[i+1]})
	}
	return t
}

// manyAttrs is an element with n attributes, aa and on.
func manyAttrs(n int) api.Tree {
	t := el("p")
	for i := range n {
		t.Attrs = append(t.Attrs, api.Attr{Name: string([]byte{'a' + byte(i/26), 'a' + byte(i%26)}), Value: strconv.Itoa(i)})
	}
	return t
}

// manyKids is an element with n kids, all empty texts.
func manyKids(n int) api.Tree {
	return el("p", make([]api.Tree, n)...)
}

// manyKeys is an element with n kids, each with a Key of its own.
func manyKeys(n int) api.Tree {
	t := el("p")
	for i := range n {
		t.Kids = append(t.Kids, keyed("b", "k"+strconv.Itoa(i)))
	}
	return t
}

// down is t within so many elements that it is the n-th of nodes within each other.
func down(n int, t api.Tree) api.Tree {
	for range n - 1 {
		t = el("p", t)
	}
	return t
}

// ofNodes is an element of n nodes, itself counted, 3 deep: n is at most 1 + 16*17.
func ofNodes(n int) api.Tree {
	t := el("p")
	for n--; n > 0; {
		inner := min(n, 1+fan)
		t.Kids = append(t.Kids, manyKids(inner-1))
		n -= inner
	}
	return t
}

// lastOf is a tree of n nodes, the last of which is x: the second or third of nodes within each other.
func lastOf(n int, x api.Tree) api.Tree {
	t := ofNodes(n)
	last := &t
	for len(last.Kids) > 0 {
		last = &last.Kids[len(last.Kids)-1]
	}
	*last = x
	return t
}

// withinItself is an element whose n kids are itself.
func withinItself(n int) api.Tree {
	t := manyKids(n)
	for i := range t.Kids {
		t.Kids[i] = t
	}
	return t
}

// clone is a copy by the tests' own hand, nil and empty lists kept as they are.
func clone(t api.Tree) api.Tree {
	t.Attrs = slices.Clone(t.Attrs)
	t.Kids = slices.Clone(t.Kids)
	for i := range t.Kids {
		t.Kids[i] = clone(t.Kids[i])
	}
	return t
}

// bare is a copy with nil lists in the place of empty ones, full one with empty lists in the place of nil ones.
func bare(t api.Tree) api.Tree {
	t = clone(t)
	if len(t.Attrs) == 0 {
		t.Attrs = nil
	}
	if len(t.Kids) == 0 {
		t.Kids = nil
	}
	for i := range t.Kids {
		t.Kids[i] = bare(t.Kids[i])
	}
	return t
}

func full(t api.Tree) api.Tree {
	t = clone(t)
	if t.Attrs == nil {
		t.Attrs = []api.Attr{}
	}
	if t.Kids == nil {
		t.Kids = []api.Tree{}
	}
	for i := range t.Kids {
		t.Kids[i] = full(t.Kids[i])
	}
	return t
}

// tell writes t out, so that two trees are one just if what is told is one; nil and empty lists are told alike.
func tell(t api.Tree) string {
	var s strings.Builder
	s.WriteString("(" + strconv.Quote(t.Tag) + " " + strconv.Quote(t.Key) + " " + strconv.Quote(t.Text))
	for _, a := range t.Attrs {
		s.WriteString(" " + strconv.Quote(a.Name) + "=" + strconv.Quote(a.Value))
	}
	for _, kid := range t.Kids {
		s.WriteString(" " + tell(kid))
	}
	return s.String() + ")"
}

// endless tells whether t lies within itself.
func endless(t api.Tree, depth int) bool {
	return depth > 40 || slices.ContainsFunc(t.Kids, func(kid api.Tree) bool { return endless(kid, depth+1) })
}

// goodTags are Tags and Names that may be.
func goodTags() []string {
	return []string{"a", "z", "p", "az", "key", "abcdefghijklmnop", "zyxwvutsrqponmlk", strings.Repeat("a", longest), strings.Repeat("z", longest-1)}
}

// badTags are Tags and Names that may not be, but for the empty one.
func badTags() []string {
	l := []string{
		strings.Repeat("a", longest+1), strings.Repeat("b", 255), strings.Repeat("c", 256+4), strings.Repeat("d", 1<<16+1),
		"A", "Z", "aB", "Ba", "1", "a1", "1a", " ", "a b", " a", "a ", "\x80", "a\xff", "é", "aé", "\xe1", "a-b", "a_b", "a\x00", "\x00",
		"`", "{", "a`", "a{", "@", "[", "<", "a>", "&", "\"", "=", "/", "!--", "ａ", strings.Repeat("é", 9), "а",
	}
	return append(l, strings.Repeat("a", longest-1)+"A", strings.Repeat("a", longest-1)+"\xe1", strings.Repeat("a", longest)+" ")
}

// goodKeys are Keys that may be: any octets.
func goodKeys() []string {
	return []string{"", "a", "A", " ", "1", "\x00", "\xff", "é", "\"", "<>&\"", "a b", strings.Repeat("k", longest-1), strings.Repeat("k", longest), strings.Repeat("\x80", longest), strings.Repeat("é", longest/2), strings.Repeat("&", longest)}
}

func badKeys() []string {
	return []string{strings.Repeat("k", longest+1), strings.Repeat("é", longest/2) + "x", strings.Repeat("k", 256), strings.Repeat("k", 257), strings.Repeat("\x00", longest+1)}
}

// goodTexts are Texts and Values that may be.
func goodTexts() []string {
	return []string{"", "a", " ", "\n", "\x00", "\xff", "é", "&", "<", ">", "\"", "'", "&amp;", "</p>", "a<b", strings.Repeat("x", written-1), strings.Repeat("x", written), strings.Repeat("é", written/2), strings.Repeat("\"", written)}
}

func badTexts() []string {
	return []string{strings.Repeat("x", written+1), strings.Repeat("é", written/2) + "x", strings.Repeat("x", 255), strings.Repeat("x", 256), strings.Repeat("x", 257), strings.Repeat("x", 1<<16)}
}

// may are trees that may be: the edges, and some by chance.
func may() []api.Tree {
	l := []api.Tree{
		el("p"), el("p", text("a<b")), el("p", text("")), el("p", text("a"), text("b"), text("")),
		el("p", text(""), el("b"), text("x"), el("b", text("y"))),
		down(2, el("p")), down(deepest-1, el("b")), down(deepest, el("b")), down(deepest, text("x")), down(deepest, text("")),
		el("p", text("ahead"), down(deepest-1, text("x")), down(deepest-1, el("b"))),
		ofNodes(2), ofNodes(most - 1), ofNodes(most), lastOf(most, text("x")), lastOf(most, el("b")), lastOf(most, keyed("b", "k")),
		manyKids(1), manyKids(fan - 1), manyKids(fan), manyKeys(fan), manyAttrs(1), manyAttrs(fan - 1), manyAttrs(fan),
		el("p", keyed("b", "a"), keyed("b", "b"), keyed("i", "c")),
		el("p", keyed("b", "k"), keyed("b", "K"), keyed("b", "k "), keyed("b", "kk"), keyed("b", "k\x00")),
		el("p", el("b"), el("b"), text(""), text(""), el("b")),
		keyed("p", "k", keyed("p", "k", keyed("p", "k"))),
		el("p", keyed("b", "k", keyed("i", "k")), keyed("b", "m", keyed("i", "k"), keyed("i", "m"))),
		el("p", el("b", keyed("i", "k")), el("b", keyed("i", "k"))),
		el("p", el("b", keyed("i", "k")), keyed("b", "k")), el("p", keyed("b", "k"), el("b", keyed("i", "k"))),
		with("a", "1", "aa", "2", "ab", "3", "b", "4"), with("key", "v"), with("a", "", "key", "", "z", ""),
		{Tag: "p", Attrs: []api.Attr{}, Kids: []api.Tree{}}, el("p", api.Tree{Attrs: []api.Attr{}, Kids: []api.Tree{}}),
	}
	for _, s := range goodTags() {
		l = append(l, el(s), el("p", el(s, text("x"))), with(s, "v"))
	}
	for _, s := range goodKeys() {
		l = append(l, keyed("p", s), el("p", el("b"), keyed("b", s)))
	}
	for _, s := range goodTexts() {
		l = append(l, el("p", text(s)), with("a", s), el("p", text("x"), el("b", text(s)), text(s)))
	}
	r := chanceOf(9)
	for range 150 {
		l = append(l, r.tree())
	}
	return l
}

// refused is a tree that may not be, told by its name: it may have no end.
type refused struct {
	name string
	tree api.Tree
	err  api.Errno
}

// badNodes are nodes that may not be by themselves, each for one cause.
func badNodes() []refused {
	l := []refused{
		{"an element with a Text", api.Tree{Tag: "b", Text: "x"}, api.ErrState},
		{"an element with a Text of 129 octets", api.Tree{Tag: "b", Text: strings.Repeat("x", written+1)}, api.ErrState},
		{"17 attributes", manyAttrs(fan + 1), api.ErrState},
		{"600 attributes", manyAttrs(600), api.ErrState},
		{"Names that fall", with("b", "", "a", ""), api.ErrState},
		{"Names that fall at last", with("a", "", "c", "", "b", ""), api.ErrState},
		{"Names that fall at first", with("b", "", "a", "", "c", ""), api.ErrState},
		{"a longer Name first", with("aa", "", "a", ""), api.ErrState},
		{"Names by their lengths", with("b", "", "aa", ""), api.ErrState},
		{"a Name twice", with("a", "", "a", ""), api.ErrState},
		{"a Name twice, with two Values", with("a", "1", "a", "2"), api.ErrState},
		{"a Name twice at last", with("a", "", "b", "", "b", ""), api.ErrState},
		{"a Name twice, one between", with("a", "", "b", "", "a", ""), api.ErrState},
		{"an empty Name", with("", "x"), api.ErrState},
		{"an empty Name ahead of others", with("", "x", "a", "y"), api.ErrState},
		{"an empty Name behind others", with("a", "x", "", "y"), api.ErrState},
		{"17 kids", manyKids(fan + 1), api.ErrState},
		{"17 kids with Keys", manyKeys(fan + 1), api.ErrState},
		{"300 kids", manyKids(300), api.ErrState},
		{"5000 kids", manyKids(5000), api.ErrState},
		{"a text with a Key", api.Tree{Key: "k"}, api.ErrState},
		{"a text with a Key and a Text", api.Tree{Key: "k", Text: "x"}, api.ErrState},
		{"a text with an attribute", api.Tree{Attrs: []api.Attr{{Name: "a"}}}, api.ErrState},
		{"a text with an attribute without a Name", api.Tree{Text: "x", Attrs: []api.Attr{{}}}, api.ErrState},
		{"a text with a text in it", api.Tree{Kids: []api.Tree{text("")}}, api.ErrState},
		{"a text with an element in it", api.Tree{Text: "x", Kids: []api.Tree{el("b")}}, api.ErrState},
		{"a text with two kids of one Key", api.Tree{Kids: []api.Tree{keyed("b", "k"), keyed("b", "k")}}, api.ErrState},
	}
	add := func(name, s string, t api.Tree) {
		l = append(l, refused{name + " " + strconv.QuoteToASCII(s[:min(len(s), 20)]) + " of " + strconv.Itoa(len(s)) + " octets", t, api.ErrState})
	}
	for _, s := range badTags() {
		add("Tag", s, el(s))
		add("Name", s, with(s, "x"))
		add("last Name", s, with("a", "x", s, "y"))
	}
	for _, s := range badKeys() {
		add("Key", s, keyed("b", s))
	}
	for _, s := range badTexts() {
		add("Value", s, with("a", s))
		add("last Value", s, with("a", "", "b", s))
		add("Text", s, text(s))
	}
	return l
}

// mayNot are trees that may not be, each with what Check is to answer.
func mayNot() []refused {
	l := []refused{
		{"no node at all", api.Tree{}, api.ErrState},
		{"a text", text("x"), api.ErrState},
		{"9 deep", down(deepest+1, el("b")), api.ErrDeep},
		{"9 deep, the ninth a text", down(deepest+1, text("x")), api.ErrDeep},
		{"20 deep", down(20, el("b")), api.ErrDeep},
		{"9 deep behind others", el("p", text("a"), el("b"), down(deepest, text("x"))), api.ErrDeep},
		{"257 nodes", ofNodes(most + 1), api.ErrCount},
		{"257 nodes, the last an element", lastOf(most+1, el("b")), api.ErrCount},
		{"273 nodes", ofNodes(1 + fan*(fan+1)), api.ErrCount},
		{"two kids with one Key", el("p", keyed("b", "k"), keyed("b", "k")), api.ErrTwice},
		{"two kids with one Key and two Tags", el("p", keyed("b", "k"), keyed("i", "k")), api.ErrTwice},
		{"two kids with one Key, others between", el("p", keyed("b", "k"), text("x"), el("b"), keyed("b", "m"), keyed("b", "k")), api.ErrTwice},
		{"the last two of 16 kids with one Key", el("p", append(manyKeys(fan-1).Kids, keyed("b", "k14"))...), api.ErrTwice},
		{"the first and the last of 16 kids with one Key", el("p", append(manyKeys(fan-1).Kids, keyed("b", "k0"))...), api.ErrTwice},
		{"two kids with a Key of 16 octets", el("p", keyed("b", strings.Repeat("k", longest)), keyed("b", strings.Repeat("k", longest))), api.ErrTwice},
		{"two kids with a Key of a zero octet", el("p", keyed("b", "\x00"), keyed("b", "\x00")), api.ErrTwice},
		{"two kids of a kid with one Key", el("p", text("x"), el("b", keyed("i", "k"), keyed("i", "k"))), api.ErrTwice},
		{"two kids of the seventh node with one Key", down(deepest-1, el("b", keyed("i", "k"), keyed("i", "k"))), api.ErrTwice},
		{"a tree within itself", withinItself(1), api.ErrDeep},
		{"a tree 16 times within itself", withinItself(fan), api.ErrDeep},
	}
	for _, bad := range badNodes() {
		l = append(l, bad,
			refused{bad.name + ", within", el("p", bad.tree), api.ErrState},
			refused{bad.name + ", behind others", el("p", text("a"), el("b", text("c")), bad.tree), api.ErrState},
			refused{bad.name + ", ahead of others", el("p", bad.tree, text("a")), api.ErrState},
			refused{bad.name + ", as the eighth", down(deepest, bad.tree), api.ErrState},
			refused{bad.name + ", as the 256th", lastOf(most, bad.tree), api.ErrState})
	}
	return l
}

// inOrder are the nodes of a tree that ends, each ahead of its kids, with how many there are within each other.
func inOrder(t api.Tree, depth int) ([]api.Tree, []int) {
	nodes, depths := []api.Tree{t}, []int{depth}
	for _, kid := range t.Kids {
		n, d := inOrder(kid, depth+1)
		nodes, depths = append(nodes, n...), append(depths, d...)
	}
	return nodes, depths
}

var letters = regexp.MustCompile(`\A[a-z]{1,16}\z`)

// byItself tells whether a node may be by itself, by the chapter's words alone.
func byItself(t api.Tree) bool {
	if t.Tag == "" {
		return len(t.Text) <= written && tell(t) == tell(text(t.Text))
	}
	var names []string
	for _, a := range t.Attrs {
		if !letters.MatchString(a.Name) || len(a.Value) > written {
			return false
		}
		names = append(names, a.Name)
	}
	rising := slices.IsSorted(names) && len(slices.Compact(names)) == len(t.Attrs)
	return letters.MatchString(t.Tag) && len(t.Key) <= longest && t.Text == "" && rising && len(t.Attrs) <= fan && len(t.Kids) <= fan
}

// firstFault is what Check is to tell of a tree that ends, by the chapter's words alone.
func firstFault(t api.Tree) api.Errno {
	if t.Tag == "" {
		return api.ErrState
	}
	nodes, depths := inOrder(t, 1)
	for i, n := range nodes {
		var keys []string
		for _, kid := range n.Kids {
			if kid.Key != "" {
				keys = append(keys, kid.Key)
			}
		}
		slices.Sort(keys)
		switch {
		case depths[i] == deepest+1:
			return api.ErrDeep
		case i == most:
			return api.ErrCount
		case !byItself(n):
			return api.ErrState
		case len(slices.Compact(slices.Clone(keys))) < len(keys):
			return api.ErrTwice
		}
	}
	return api.OK
}

// chance makes trees from a fixed rule.
type chance struct {
	*rand.Rand
}

func chanceOf(seed int64) chance {
	return chance{rand.New(rand.NewSource(seed))}
}

func (r chance) of(l []string) string {
	return l[r.Intn(len(l))]
}

// tree is one that may be.
func (r chance) tree() api.Tree {
	for {
		if t := r.element(1); firstFault(t) == api.OK {
			return t
		}
	}
}

func (r chance) element(depth int) api.Tree {
	t := el(r.of([]string{"a", "b", "p", "div"}))
	if r.Intn(3) == 0 {
		t.Key = r.of([]string{"a", "b", "c", "d", "\"", "&", "<k>", "\xff"})
	}
	for _, name := range []string{"a", "class", "key", "z"} {
		if r.Intn(6) == 0 {
			t.Attrs = append(t.Attrs, api.Attr{Name: name, Value: r.text()})
		}
	}
	for range r.Intn(5) {
		if depth == deepest || r.Intn(2) == 0 {
			t.Kids = append(t.Kids, text(r.text()))
		} else {
			t.Kids = append(t.Kids, r.element(depth+1))
		}
	}
	return t
}

func (r chance) text() string {
	s := ""
	for range r.Intn(5) {
		s += r.of([]string{"a", "b", " ", "&", "<", ">", "\"", ";", "/", "=", "amp;", "lt", "\xff", "\x00", "é"})
	}
	return s
}

// spoilt is t with a fault at a node by chance, or with none.
func (r chance) spoilt(t api.Tree) api.Tree {
	t = clone(t)
	n := &t
	for len(n.Kids) > 0 && r.Intn(3) > 0 {
		n = &n.Kids[r.Intn(len(n.Kids))]
	}
	switch r.Intn(10) {
	case 0:
		n.Tag = r.of(append(badTags(), ""))
	case 1:
		n.Key = r.of(append(badKeys(), "a", "b"))
	case 2:
		n.Text = r.of(append(badTexts(), "x"))
	case 3:
		n.Attrs = append(n.Attrs, api.Attr{Name: r.of(append(badTags(), "b", "key", "")), Value: r.text()})
	case 4:
		n.Attrs = append(n.Attrs, api.Attr{Name: "zz", Value: r.of(badTexts())})
	case 5:
		n.Kids = append(n.Kids, down(1+r.Intn(deepest), text("x")))
	case 6:
		n.Kids = append(n.Kids, ofNodes(most-r.Intn(30)))
	case 7:
		n.Kids = append(n.Kids, keyed("b", "a"), keyed("b", r.of([]string{"a", "b"})))
	case 8:
		n.Kids = append(n.Kids, api.Tree{Key: r.of([]string{"a", "", "b"}), Text: "x"})
	case 9:
		n.Kids = append(n.Kids, make([]api.Tree, r.Intn(fan+2))...)
	}
	return t
}
