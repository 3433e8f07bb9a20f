package dom_test

import (
	"math"
	"math/rand"
	"regexp"
	"slices"
	"strconv"
	"strings"

	"fanlight/api"
	"fanlight/dom"
)

const (
	most     = 1024 // nodes of a display
	fan      = 32   // kids of a node
	named    = 16   // attributes of a node
	longest  = 16   // octets of a Tag, a Key or a Name
	written  = 128  // octets of a Text or a Value
	deepest  = 8    // nodes within each other of a Tree
	lastNext = 1<<31 - 1
)

func el(id, parent int, tag string, kids ...int) dom.Node {
	return dom.Node{ID: id, Parent: parent, Tag: tag, Kids: kids}
}

func text(id, parent int, s string) dom.Node {
	return dom.Node{ID: id, Parent: parent, Text: s}
}

// with is n with attributes, told as names and values by turns.
func with(n dom.Node, words ...string) dom.Node {
	for i := 0; i < len(words); i += 2 {
		n.Attrs = append(n.Attrs, api.Attr{Name: words[i], Value: words[i+1]})
	}
	return n
}

func keyed(n dom.Node, key string) dom.Node {
	n.Key = key
	return n
}

func display(root, next int, nodes ...dom.Node) dom.State {
	return dom.State{Nodes: nodes, Root: root, Next: next}
}

// sample is a display with a root, and beside it a loose element with a kid, a loose text and a loose element without kids; there is no 10.
func sample() dom.State {
	return display(1, 20,
		el(1, 0, "p", 2, 3, 4),
		text(2, 1, "a"),
		with(keyed(el(3, 1, "b", 5, 6), "k"), "b", "1", "d", "2"),
		text(4, 1, ""),
		el(5, 3, "i", 7),
		text(6, 3, "x"),
		text(7, 5, "y"),
		el(8, 0, "u", 9),
		text(9, 8, "z"),
		text(11, 0, "loose"),
		el(12, 0, "s"),
	)
}

// node is where s has that node.
func node(s dom.State, id int) *dom.Node {
	for i := range s.Nodes {
		if s.Nodes[i].ID == id {
			return &s.Nodes[i]
		}
	}
	return nil
}

// lined are n texts that hang nowhere.
func lined(n int) dom.State {
	s := display(0, n+1)
	for i := range n {
		s.Nodes = append(s.Nodes, text(i+1, 0, "x"))
	}
	return s
}

// parted is a root with n texts in it, and behind them a loose text and a loose element.
func parted(n int) dom.State {
	s := display(1, n+4, el(1, 0, "p"))
	for i := range n {
		s.Nodes[0].Kids = append(s.Nodes[0].Kids, i+2)
		s.Nodes = append(s.Nodes, text(i+2, 1, strconv.Itoa(i)))
	}
	s.Nodes = append(s.Nodes, text(n+2, 0, "loose"), el(n+3, 0, "b"))
	return s
}

// deep are n elements, each within the one ahead; the first is the root.
func deep(n int) dom.State {
	s := display(1, n+1)
	for i := range n {
		s.Nodes = append(s.Nodes, el(i+1, i, "p", i+2))
	}
	s.Nodes[n-1].Kids = nil
	return s
}

// ring are n elements, each within the one ahead, and the first within the last; root is of no account to them.
func ring(n, root int) dom.State {
	s := deep(n)
	s.Nodes[0].Parent, s.Nodes[n-1].Kids = n, []int{1}
	s.Root, s.Next = root, n+3
	s.Nodes = append(s.Nodes, el(n+1, 0, "p", n+2), text(n+2, n+1, "x"))
	return s
}

// manyAttrs is n with so many attributes, ba, bc and on.
func manyAttrs(n dom.Node, count int) dom.Node {
	for i := range count {
		n.Attrs = append(n.Attrs, api.Attr{Name: nameOf(i), Value: strconv.Itoa(i)})
	}
	return n
}

// nameOf is the i-th of names that rise, with room for another one between each two.
func nameOf(i int) string {
	return string([]byte{'b' + byte(i/12), 'a' + byte(2*(i%12))})
}

// wide is a display of 1024 nodes, all in the root's tree, three deep, of which no node has more than 32 kids.
func wide() dom.State {
	s := display(1, most+1, el(1, 0, "p"))
	for i := range 31 {
		id := 2 + 33*i
		s.Nodes[0].Kids = append(s.Nodes[0].Kids, id)
		inner := el(id, 1, "b")
		var texts []dom.Node
		for j := range 32 {
			inner.Kids = append(inner.Kids, id+1+j)
			texts = append(texts, text(id+1+j, id, strconv.Itoa(j)))
		}
		s.Nodes = append(append(s.Nodes, inner), texts...)
	}
	return s
}

// clone is a copy by the tests' own hand, nil and empty lists kept as they are.
func clone(s dom.State) dom.State {
	s.Nodes = slices.Clone(s.Nodes)
	for i, n := range s.Nodes {
		s.Nodes[i].Attrs, s.Nodes[i].Kids = slices.Clone(n.Attrs), slices.Clone(n.Kids)
	}
	return s
}

// bare is a copy with nil lists in the place of empty ones, full one with empty lists in the place of nil ones.
func bare(s dom.State) dom.State {
	s = clone(s)
	if len(s.Nodes) == 0 {
		s.Nodes = nil
	}
	for i, n := range s.Nodes {
		if len(n.Attrs) == 0 {
			s.Nodes[i].Attrs = nil
		}
		if len(n.Kids) == 0 {
			s.Nodes[i].Kids = nil
		}
	}
	return s
}

func full(s dom.State) dom.State {
	s = clone(s)
	if s.Nodes == nil {
		s.Nodes = []dom.Node{}
	}
	for i, n := range s.Nodes {
		if n.Attrs == nil {
			s.Nodes[i].Attrs = []api.Attr{}
		}
		if n.Kids == nil {
			s.Nodes[i].Kids = []int{}
		}
	}
	return s
}

// tell writes s out, so that two displays are one just if what is told is one; nil and empty lists are told alike.
func tell(s dom.State) string {
	var b strings.Builder
	b.WriteString("root " + strconv.Itoa(s.Root) + " next " + strconv.Itoa(s.Next))
	for _, n := range s.Nodes {
		b.WriteString(" [" + strconv.Itoa(n.ID) + " in " + strconv.Itoa(n.Parent) + " " + strconv.Quote(n.Tag) + " " + strconv.Quote(n.Key) + " " + strconv.Quote(n.Text))
		for _, a := range n.Attrs {
			b.WriteString(" " + strconv.Quote(a.Name) + "=" + strconv.Quote(a.Value))
		}
		for _, kid := range n.Kids {
			b.WriteString(" " + strconv.Itoa(kid))
		}
		b.WriteString("]")
	}
	return b.String()
}

// tellTree writes t out likewise.
func tellTree(t api.Tree) string {
	var b strings.Builder
	b.WriteString("(" + strconv.Quote(t.Tag) + " " + strconv.Quote(t.Key) + " " + strconv.Quote(t.Text))
	for _, a := range t.Attrs {
		b.WriteString(" " + strconv.Quote(a.Name) + "=" + strconv.Quote(a.Value))
	}
	for _, kid := range t.Kids {
		b.WriteString(" " + tellTree(kid))
	}
	return b.String() + ")"
}

var letters = regexp.MustCompile(`\A[a-z]{1,16}\z`)

// byItself tells whether a node may be by itself, by the chapters' words alone.
func byItself(n dom.Node) bool {
	if n.Tag == "" {
		return n.Key == "" && len(n.Text) <= written && len(n.Attrs)+len(n.Kids) == 0
	}
	var names []string
	for _, a := range n.Attrs {
		if !letters.MatchString(a.Name) || len(a.Value) > written {
			return false
		}
		names = append(names, a.Name)
	}
	rising := slices.IsSorted(names) && len(slices.Compact(names)) == len(n.Attrs)
	return letters.MatchString(n.Tag) && len(n.Key) <= longest && n.Text == "" && rising && len(n.Attrs) <= named && len(n.Kids) <= fan
}

// mayBe tells whether a display may be, by the chapter's words alone: no node is within itself where all are met on the ways down from those that hang nowhere.
func mayBe(s dom.State) bool {
	if s.Next < 1 || s.Next > lastNext || len(s.Nodes) > most {
		return false
	}
	byID := map[int]dom.Node{}
	for i, n := range s.Nodes {
		if n.ID < 1 || n.ID >= s.Next || i > 0 && s.Nodes[i-1].ID >= n.ID || !byItself(n) {
			return false
		}
		byID[n.ID] = n
	}
	hung := map[int]int{}
	for _, n := range s.Nodes {
		for _, kid := range n.Kids {
			if k, is := byID[kid]; !is || k.Parent != n.ID || hung[kid] != 0 {
				return false
			}
			hung[kid] = n.ID
		}
	}
	met := 0
	var down func(id int)
	down = func(id int) {
		met++
		for _, kid := range byID[id].Kids {
			down(kid)
		}
	}
	for _, n := range s.Nodes {
		if hung[n.ID] != n.Parent {
			return false
		}
		if n.Parent == 0 {
			down(n.ID)
		}
	}
	root, is := byID[s.Root]
	return met == len(s.Nodes) && (s.Root == 0 || is && root.Tag != "" && root.Parent == 0)
}

// badTags are Tags and Names that may not be, but for the empty one.
func badTags() []string {
	return []string{
		strings.Repeat("a", longest+1), strings.Repeat("b", 256+4), "A", "aB", "1", "a1", " ", "a b", "a ", "\xff", "é", "a-b", "a\x00", "`", "{", "<", "&",
	}
}

func badKeys() []string {
	return []string{strings.Repeat("k", longest+1), strings.Repeat("é", longest/2) + "x", strings.Repeat("k", 256)}
}

// goodTexts are Texts and Values that may be.
func goodTexts() []string {
	return []string{"", "a", " ", "\x00", "\xff", "é", "<&>\"", strings.Repeat("x", written-1), strings.Repeat("x", written), strings.Repeat("é", written/2)}
}

func badTexts() []string {
	return []string{strings.Repeat("x", written+1), strings.Repeat("é", written/2) + "x", strings.Repeat("x", 256), strings.Repeat("x", 1<<16)}
}

// oddNumbers are IDs, places and kinds that are seldom any.
func oddNumbers() []int {
	return []int{math.MinInt, -1 << 32, -1 << 31, -1, 0, 1<<31 - 1, 1 << 31, 1<<32 + 1, math.MaxInt}
}

// badNodes are nodes that may not be by themselves, each for one cause; all hang nowhere and have the ID 1.
func badNodes() map[string]dom.Node {
	l := map[string]dom.Node{
		"an element with a Text":      {ID: 1, Tag: "p", Text: "x"},
		"a text with a Key":           {ID: 1, Key: "k", Text: "x"},
		"a text with an attribute":    with(text(1, 0, "x"), "a", ""),
		"17 attributes":               manyAttrs(el(1, 0, "p"), named+1),
		"200 attributes":              manyAttrs(el(1, 0, "p"), 200),
		"Names that fall":             with(el(1, 0, "p"), "b", "", "a", ""),
		"Names that fall at last":     with(el(1, 0, "p"), "a", "", "c", "", "b", ""),
		"a Name twice":                with(el(1, 0, "p"), "a", "1", "a", "2"),
		"a Name twice, one between":   with(el(1, 0, "p"), "a", "", "b", "", "a", ""),
		"an empty Name":               with(el(1, 0, "p"), "", "x"),
		"an empty Name behind others": with(el(1, 0, "p"), "a", "x", "", "y"),
	}
	short := func(s string) string {
		return strconv.QuoteToASCII(s[:min(len(s), 20)]) + " of " + strconv.Itoa(len(s)) + " octets"
	}
	for _, s := range badTags() {
		l["Tag "+short(s)] = el(1, 0, s)
		l["Name "+short(s)] = with(el(1, 0, "p"), s, "x")
	}
	for _, s := range badKeys() {
		l["Key "+short(s)] = keyed(el(1, 0, "p"), s)
	}
	for _, s := range badTexts() {
		l["Text "+short(s)] = text(1, 0, s)
		l["Value "+short(s)] = with(el(1, 0, "p"), "a", s)
		l["last Value "+short(s)] = with(el(1, 0, "p"), "a", "", "b", s)
	}
	return l
}

// chance makes displays and patches from a fixed rule.
type chance struct {
	*rand.Rand
}

func chanceOf(seed int64) chance {
	return chance{rand.New(rand.NewSource(seed))}
}

func (r chance) of(l ...string) string {
	return l[r.Intn(len(l))]
}

// display is one that may be, of n nodes: each hangs, if anywhere, in one that came ahead in an order by chance.
func (r chance) display(n int) dom.State {
	s := display(0, 1)
	for range n {
		s.Next += r.Intn(2) * r.Intn(3)
		s.Nodes = append(s.Nodes, r.node(s.Next))
		s.Next++
	}
	var ahead []int
	for _, at := range r.Perm(n) {
		if len(ahead) > 0 && r.Intn(8) > 0 {
			up := &s.Nodes[ahead[len(ahead)-1-r.Intn(min(len(ahead), 6))]]
			if len(up.Kids) < fan {
				up.Kids = slices.Insert(up.Kids, r.Intn(len(up.Kids)+1), s.Nodes[at].ID)
				s.Nodes[at].Parent = up.ID
			}
		}
		if s.Nodes[at].Tag != "" {
			ahead = append(ahead, at)
		}
		if s.Nodes[at].Tag != "" && s.Nodes[at].Parent == 0 && r.Intn(3) > 0 {
			s.Root = s.Nodes[at].ID
		}
	}
	return s
}

// node is one that may be by itself and hangs nowhere.
func (r chance) node(id int) dom.Node {
	if r.Intn(3) == 0 {
		return text(id, 0, r.of(goodTexts()...))
	}
	n := keyed(el(id, 0, r.of("a", "b", "p", "div", strings.Repeat("z", longest))), r.of("", "", "k", "m", "\xff", strings.Repeat("k", longest)))
	for _, name := range []string{"a", "b", "c", "d"} {
		if r.Intn(4) == 0 {
			n = with(n, name, r.of(goodTexts()...))
		}
	}
	return n
}

// id is mostly that of a node of s.
func (r chance) id(s dom.State) int {
	if len(s.Nodes) > 0 && r.Intn(20) > 0 {
		return s.Nodes[r.Intn(len(s.Nodes))].ID
	}
	return append(oddNumbers(), s.Next, s.Next-1)[r.Intn(len(oddNumbers())+2)]
}

// patch is one that s mostly takes.
func (r chance) patch(s dom.State) dom.Patch {
	p := dom.Patch{What: []int{1, 1, 1, 1, 2, 2, 2, 2, 2, 3, 4, 4, 4, 5, 5, 6, 7}[r.Intn(17)], ID: r.id(s), Parent: r.id(s), At: r.Intn(4)}
	p.Name, p.Value, p.Text = r.of("a", "b", "c", "d", "e"), r.of(goodTexts()...), r.of(goodTexts()...)
	if p.What == 1 {
		n := r.node(s.Next)
		p.ID, p.Tag, p.Key, p.Text = n.ID, n.Tag, n.Key, n.Text
	}
	switch r.Intn(25) {
	case 0:
		p.What = oddNumbers()[r.Intn(len(oddNumbers()))]
	case 1:
		p.At = oddNumbers()[r.Intn(len(oddNumbers()))]
	case 2:
		p.Name = r.of(append(badTags(), "")...)
	case 3:
		p.Value, p.Text = r.of(badTexts()...), r.of(badTexts()...)
	case 4:
		p.Tag = r.of(append(badTags(), "")...)
	case 5:
		p.Key = r.of(badKeys()...)
	case 6:
		p.ID = r.id(s)
	}
	return p
}

// spoilt is s with a change by chance, behind which it mostly may not be.
func (r chance) spoilt(s dom.State) dom.State {
	s = clone(s)
	n := &s.Nodes[r.Intn(len(s.Nodes))]
	odd := append(oddNumbers(), n.ID, n.ID+1, n.ID-1, s.Nodes[0].ID, s.Next, s.Next-1)
	number := odd[r.Intn(len(odd))]
	switch r.Intn(13) {
	case 0:
		s.Next = number
	case 1:
		s.Root = number
	case 2:
		n.ID = number
	case 3:
		n.Parent = number
	case 4:
		n.Kids = append(n.Kids, number)
	case 5:
		n.Kids = slices.Insert(n.Kids, 0, r.id(s))
	case 6:
		n.Kids = n.Kids[:len(n.Kids)/2]
	case 7:
		n.Tag = r.of(append(badTags(), "", "p")...)
	case 8:
		n.Text = r.of(append(badTexts(), "x", "")...)
	case 9:
		n.Attrs = append(n.Attrs, api.Attr{Name: r.of(append(badTags(), "", "b", "z")...), Value: r.of(append(badTexts(), "x")...)})
	case 10: // into what may be within it
		up := node(s, r.id(s))
		if old := node(s, n.Parent); old != nil {
			old.Kids = slices.DeleteFunc(old.Kids, func(id int) bool { return id == n.ID })
		}
		if up != nil {
			n.Parent = up.ID
			up.Kids = append(up.Kids, n.ID)
		}
	case 11:
		other := &s.Nodes[r.Intn(len(s.Nodes))]
		*n, *other = *other, *n
	case 12:
		n.Key = r.of(append(badKeys(), "", "k")...)
	}
	return s
}

func tellPatch(p dom.Patch) string {
	return strconv.Itoa(p.What) + " of " + strconv.Itoa(p.ID) + " in " + strconv.Itoa(p.Parent) + " at " + strconv.Itoa(p.At) + " " + strconv.Quote(p.Tag) + " " + strconv.Quote(p.Key) + " " + strconv.Quote(p.Name) + " " + strconv.Quote(p.Value) + " " + strconv.Quote(p.Text)
}
