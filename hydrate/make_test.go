package hydrate_test

import (
	"math/rand"
	"slices"
	"sort"
	"strconv"
	"strings"

	"fanlight/api"
	"fanlight/dom"
	"fanlight/tree"
)

const (
	most     = 1024 // nodes of a display
	fan      = 32   // kids of a display's node
	treeFan  = 16   // kids of a tree's node
	deepest  = 8    // nodes within each other of a tree
	lastNext = 1<<31 - 1
)

func el(id, parent int, tag string, kids ...int) dom.Node {
	return dom.Node{ID: id, Parent: parent, Tag: tag, Kids: kids}
}

func text(id, parent int, s string) dom.Node {
	return dom.Node{ID: id, Parent: parent, Text: s}
}

func keyed(n dom.Node, key string) dom.Node {
	n.Key = key
	return n
}

// attrs are told as names and values by turns.
func attrs(words ...string) []api.Attr {
	var l []api.Attr
	for i := 0; i < len(words); i += 2 {
		l = append(l, api.Attr{Name: words[i], Value: words[i+1]})
	}
	return l
}

func with(n dom.Node, words ...string) dom.Node {
	n.Attrs = attrs(words...)
	return n
}

func display(root, next int, nodes ...dom.Node) dom.State {
	return dom.State{Nodes: nodes, Root: root, Next: next}
}

func part(tag string, kids ...api.Tree) api.Tree {
	return api.Tree{Tag: tag, Kids: kids}
}

func words(s string) api.Tree {
	return api.Tree{Text: s}
}

// key is an element i with a Key.
func key(k string, kids ...api.Tree) api.Tree {
	return api.Tree{Tag: "i", Key: k, Kids: kids}
}

func having(t api.Tree, words ...string) api.Tree {
	t.Attrs = attrs(words...)
	return t
}

// down is t within so many elements that it is the n-th of nodes within each other.
func down(n int, t api.Tree) api.Tree {
	for range n - 1 {
		t = part("p", t)
	}
	return t
}

// build is the display of a tree that may be: its nodes numbered from 1 on, each ahead of its kids.
func build(t api.Tree) dom.State {
	s, err := dom.Build(t)
	if err != api.OK {
		panic("the tests' own tree may not be: " + tellTree(t))
	}
	return s
}

func create(id int, tag, key string) dom.Patch {
	return dom.Patch{What: 1, ID: id, Tag: tag, Key: key}
}

func createText(id int, s string) dom.Patch {
	return dom.Patch{What: 1, ID: id, Text: s}
}

func hang(id, parent, at int) dom.Patch {
	return dom.Patch{What: 2, ID: id, Parent: parent, At: at}
}

func away(id int) dom.Patch {
	return dom.Patch{What: 3, ID: id}
}

func set(id int, name, value string) dom.Patch {
	return dom.Patch{What: 4, ID: id, Name: name, Value: value}
}

func unset(id int, name string) dom.Patch {
	return dom.Patch{What: 5, ID: id, Name: name}
}

func reword(id int, s string) dom.Patch {
	return dom.Patch{What: 6, ID: id, Text: s}
}

func root(id int) dom.Patch {
	return dom.Patch{What: 7, ID: id}
}

// node is where s, whose nodes are by ID, has that node.
func node(s dom.State, id int) *dom.Node {
	at := sort.Search(len(s.Nodes), func(at int) bool { return s.Nodes[at].ID >= id })
	if at == len(s.Nodes) || s.Nodes[at].ID != id {
		return nil
	}
	return &s.Nodes[at]
}

func idsOf(s dom.State) []int {
	var l []int
	for _, n := range s.Nodes {
		l = append(l, n.ID)
	}
	return l
}

// clone is a copy by the tests' own hand.
func clone(s dom.State) dom.State {
	s.Nodes = slices.Clone(s.Nodes)
	for i, n := range s.Nodes {
		s.Nodes[i].Attrs, s.Nodes[i].Kids = slices.Clone(n.Attrs), slices.Clone(n.Kids)
	}
	return s
}

// full is a copy with empty lists in the place of nil ones, fullTree likewise.
func full(s dom.State) dom.State {
	s = clone(s)
	if s.Nodes == nil {
		s.Nodes = []dom.Node{}
	}
	for i, n := range s.Nodes {
		if n.Attrs == nil {
			s.Nodes[i].Attrs = []api.Attr{}
		}
		if n.Kids == nil {
			s.Nodes[i].Kids = []int{}
		}
	}
	return s
}

func fullTree(t api.Tree) api.Tree {
	t.Attrs = append([]api.Attr{}, t.Attrs...)
	kids := []api.Tree{}
	for _, kid := range t.Kids {
		kids = append(kids, fullTree(kid))
	}
	t.Kids = kids
	return t
}

// filled is s with n loose texts more, which have the numbers from Next on.
func filled(s dom.State, n int) dom.State {
	s = clone(s)
	for range n {
		s.Nodes = append(s.Nodes, text(s.Next, 0, "filler"))
		s.Next++
	}
	return s
}

// raised is s with all its numbers put up by n.
func raised(s dom.State, n int) dom.State {
	s = clone(s)
	s.Next += n
	if s.Root != 0 {
		s.Root += n
	}
	for i := range s.Nodes {
		s.Nodes[i].ID += n
		if s.Nodes[i].Parent != 0 {
			s.Nodes[i].Parent += n
		}
		for j := range s.Nodes[i].Kids {
			s.Nodes[i].Kids[j] += n
		}
	}
	return s
}

// beside is s, and behind it, with higher numbers, all of other as loose nodes.
func beside(s, other dom.State) dom.State {
	s, other = clone(s), raised(other, s.Next-1)
	return display(s.Root, other.Next, append(s.Nodes, other.Nodes...)...)
}

// ahead is s, and ahead of it, with lower numbers, all of other as loose nodes.
func ahead(other, s dom.State) dom.State {
	u := beside(other, s)
	u.Root = 0
	if s.Root != 0 {
		u.Root = s.Root + other.Next - 1
	}
	return u
}

// deep are n elements p, each within the one ahead; the first is the root.
func deep(n int) dom.State {
	s := display(1, n+1)
	for i := range n {
		s.Nodes = append(s.Nodes, el(i+1, i, "p", i+2))
	}
	s.Nodes[n-1].Kids = nil
	return s
}

// crowd is a root p with an element b, in which are 32 elements i with texts, n nodes in all, of which none is loose.
func crowd(n int) dom.State {
	s := display(1, n+1, el(1, 0, "p", 2), el(2, 1, "b"))
	for i := range fan {
		s.Nodes[1].Kids = append(s.Nodes[1].Kids, 3+i)
		s.Nodes = append(s.Nodes, el(3+i, 2, "i"))
	}
	for id := 3 + fan; id <= n; id++ {
		up := &s.Nodes[2+(id-3-fan)/fan]
		up.Kids = append(up.Kids, id)
		s.Nodes = append(s.Nodes, text(id, up.ID, "x"))
	}
	return s
}

// great is a tree of 256 nodes: 15 elements b with 16 texts each.
func great() api.Tree {
	t := part("p")
	for i := range 15 {
		inner := api.Tree{Tag: "b", Key: "k" + strconv.Itoa(i)}
		for j := range treeFan {
			inner.Kids = append(inner.Kids, words(strconv.Itoa(j)))
		}
		t.Kids = append(t.Kids, inner)
	}
	return t
}

// tell writes s out, so that two displays are one just if what is told is one; nil and empty lists are told alike.
func tell(s dom.State) string {
	var b strings.Builder
	b.WriteString("root " + strconv.Itoa(s.Root) + " next " + strconv.Itoa(s.Next))
	for _, n := range s.Nodes {
		b.WriteString(" [" + strconv.Itoa(n.ID) + " in " + strconv.Itoa(n.Parent) + " " + strconv.Quote(n.Tag) + " " + strconv.Quote(n.Key) + " " + strconv.Quote(n.Text))
		for _, a := range n.Attrs {
			b.WriteString(" " + strconv.Quote(a.Name) + "=" + strconv.Quote(a.Value))
		}
		for _, kid := range n.Kids {
			b.WriteString(" " + strconv.Itoa(kid))
		}
		b.WriteString("]")
	}
	return b.String()
}

// tellTree writes t out likewise.
func tellTree(t api.Tree) string {
	var b strings.Builder
	b.WriteString("(" + strconv.Quote(t.Tag) + " " + strconv.Quote(t.Key) + " " + strconv.Quote(t.Text))
	for _, a := range t.Attrs {
		b.WriteString(" " + strconv.Quote(a.Name) + "=" + strconv.Quote(a.Value))
	}
	for _, kid := range t.Kids {
		b.WriteString(" " + tellTree(kid))
	}
	return b.String() + ")"
}

func tellPatches(l []dom.Patch) string {
	var b strings.Builder
	for _, p := range l {
		b.WriteString("{" + strconv.Itoa(p.What) + " of " + strconv.Itoa(p.ID) + " in " + strconv.Itoa(p.Parent) + " at " + strconv.Itoa(p.At))
		for _, s := range []string{p.Tag, p.Key, p.Text, p.Name, p.Value} {
			b.WriteString(" " + strconv.Quote(s))
		}
		b.WriteString("}")
	}
	return b.String()
}

// chance makes displays and trees from a fixed rule.
type chance struct {
	*rand.Rand
}

func chanceOf(seed int64) chance {
	return chance{rand.New(rand.NewSource(seed))}
}

func (r chance) of(l ...string) string {
	return l[r.Intn(len(l))]
}

func (r chance) attrs() []api.Attr {
	var l []api.Attr
	for _, name := range []string{"a", "b", "c", "key"} {
		if r.Intn(4) == 0 {
			l = append(l, api.Attr{Name: name, Value: r.of("", "1", "2")})
		}
	}
	return l
}

// node is one that may be by itself and hangs nowhere; Tags and Keys are few, so that many fit each other.
func (r chance) node(id int) dom.Node {
	if r.Intn(3) == 0 {
		return text(id, 0, r.of("", "x", "y", "z"))
	}
	n := keyed(el(id, 0, r.of("a", "b", "b")), r.of("", "", "k", "m", "n", "o"))
	n.Attrs = r.attrs()
	return n
}

// display is one that may be, of n nodes: each hangs, if anywhere, in one that came ahead in an order by chance; some are deep, most are not; some have many loose nodes, most have few.
func (r chance) display(n int) dom.State {
	s := display(0, 1+r.Intn(2)*r.Intn(50))
	isDeep, isLoose := r.Intn(3) == 0, r.Intn(4) == 0
	for range n {
		s.Next += r.Intn(2) * r.Intn(3)
		s.Nodes = append(s.Nodes, r.node(s.Next))
		s.Next++
	}
	var ahead []int
	for _, at := range r.Perm(n) {
		if len(ahead) > 0 && r.Intn(12) > 0 && (!isLoose || r.Intn(2) == 0) {
			up := &s.Nodes[ahead[r.Intn(min(len(ahead), 3+len(ahead)/3))]]
			if isDeep {
				up = &s.Nodes[ahead[len(ahead)-1-r.Intn(min(len(ahead), 2))]]
			}
			if len(up.Kids) < fan {
				up.Kids = slices.Insert(up.Kids, r.Intn(len(up.Kids)+1), s.Nodes[at].ID)
				s.Nodes[at].Parent = up.ID
			}
		}
		if s.Nodes[at].Tag != "" {
			ahead = append(ahead, at)
		}
		if s.Nodes[at].Tag != "" && s.Nodes[at].Parent == 0 && (s.Root == 0 || r.Intn(6) == 0) {
			s.Root = s.Nodes[at].ID
		}
	}
	if r.Intn(8) == 0 {
		s.Root = 0
	}
	return s
}

// tree is one that may be.
func (r chance) tree(depth int) api.Tree {
	t := api.Tree{Tag: r.of("a", "b", "b"), Key: r.of("", "", "k"), Attrs: r.attrs()}
	for range r.Intn(7 - depth/2) {
		switch {
		case depth+1 == deepest || r.Intn(3) == 0:
			t.Kids = append(t.Kids, words(r.of("", "x", "y", "z")))
		default:
			kid := r.tree(depth + 1 + r.Intn(2)*(deepest-1-depth)/2)
			kid.Key = r.of("", "", "k", "m", "n", "o")
			t.Kids = append(t.Kids, kid)
		}
	}
	return unlike(t)
}

// unlike takes Keys away from kids that are not the first with theirs.
func unlike(t api.Tree) api.Tree {
	seen := map[string]int{}
	for i, kid := range t.Kids {
		if seen[kid.Key]++; seen[kid.Key] > 1 {
			t.Kids[i].Key = ""
		}
	}
	return t
}

// changed is a tree near that of s: kids by chance gone, doubled, in another order, or otherwise told; and in the end one that may be.
func (r chance) changed(s dom.State) api.Tree {
	t, err := dom.Tree(s)
	if err != api.OK {
		return r.tree(1)
	}
	t = r.near(t, 1)
	if tree.Check(t) != api.OK {
		return r.tree(1)
	}
	return t
}

func (r chance) near(t api.Tree, depth int) api.Tree {
	if t.Tag == "" {
		if r.Intn(4) == 0 {
			t.Text = r.of("", "x", "y", "z")
		}
		return t
	}
	if r.Intn(4) == 0 {
		t.Attrs = r.attrs()
	}
	if depth > 1 && r.Intn(12) == 0 {
		t.Key = r.of("", "k", "m", "n", "o")
	}
	var kids []api.Tree
	for _, kid := range t.Kids {
		if r.Intn(5) > 0 && len(kids) < treeFan {
			kids = append(kids, r.near(kid, depth+1))
		}
	}
	if len(kids) < treeFan && depth < deepest && r.Intn(3) == 0 {
		kids = slices.Insert(kids, r.Intn(len(kids)+1), r.tree(max(depth+1, deepest-1)))
	}
	for range r.Intn(3) * r.Intn(3) {
		if len(kids) > 1 {
			from, to := r.Intn(len(kids)), r.Intn(len(kids))
			kids[from], kids[to] = kids[to], kids[from]
		}
	}
	t.Kids = kids
	return unlike(t)
}
