package dom_test

import (
	"maps"
	"slices"
	"testing"

	"fanlight/api"
	"fanlight/dom"
)

func TestRunExample(t *testing.T) {
	l := []dom.Patch{{What: 1, ID: 1, Tag: "p"}, {What: 7, ID: 1}, {What: 1, ID: 2, Text: "x"}, {What: 2, ID: 2, Parent: 1, At: 0}}
	s, n, err := dom.Run(dom.New(), l)
	if tell(s) != tell(display(1, 3, el(1, 0, "p", 2), text(2, 1, "x"))) || n != 4 || err != api.OK {
		t.Errorf("P10.2: Run of the example: %s, %d, %v", tell(s), n, err)
	}
}

// TestRunOfNothing: no patches, nil or empty: the display as it is.
func TestRunOfNothing(t *testing.T) {
	for name, s := range may() {
		for _, l := range [][]dom.Patch{nil, {}} {
			if x, n, err := dom.Run(s, l); tell(x) != tell(s) || n != 0 || err != api.OK {
				t.Errorf("P10.2: Run of no patches, %s: %.2000s, %d, %v", name, tell(x), n, err)
			}
		}
	}
}

// TestRunUpToTheFirstRefused: what stands behind it is not done, even if it could be.
func TestRunUpToTheFirstRefused(t *testing.T) {
	good := []dom.Patch{{What: 1, ID: 1, Tag: "p"}, {What: 7, ID: 1}, {What: 1, ID: 2, Tag: "b"}, {What: 2, ID: 2, Parent: 1}, {What: 4, ID: 2, Name: "a", Value: "1"}, {What: 1, ID: 3, Text: "x"}, {What: 2, ID: 3, Parent: 2}, {What: 6, ID: 3, Text: "y"}, {What: 5, ID: 2, Name: "a"}, {What: 3, ID: 2}}
	for _, bad := range []struct {
		patch dom.Patch
		err   api.Errno
	}{
		{dom.Patch{What: 8}, api.ErrKind}, {dom.Patch{What: 1, ID: 9}, api.ErrOrder}, {dom.Patch{What: 3, ID: 9}, api.ErrNone},
	} {
		for at := range len(good) + 1 {
			want, ahead, err := dom.Run(dom.New(), good[:at])
			if ahead != at || err != api.OK {
				t.Fatalf("P10.2: Run of the first %d: %d, %v", at, ahead, err)
			}
			l := slices.Insert(slices.Clone(good), at, bad.patch)
			if s, n, err := dom.Run(dom.New(), l); tell(s) != tell(want) || n != at || err != bad.err {
				t.Errorf("P10.2: Run, the patch at %d is refused: %s, %d, %v, want %s", at, tell(s), n, err, tell(want))
			}
		}
	}
}

// TestRunTellsTheFirstError: the first that is refused counts, whatever stands behind it.
func TestRunTellsTheFirstError(t *testing.T) {
	l := []dom.Patch{{What: 1, ID: 1, Tag: "p"}, {What: 3, ID: 2}, {What: 0}, {What: 1, ID: 1}}
	if s, n, err := dom.Run(dom.New(), l); tell(s) != tell(display(0, 2, el(1, 0, "p"))) || n != 1 || err != api.ErrNone {
		t.Errorf("P10.2: Run with three that are refused: %s, %d, %v", tell(s), n, err)
	}
}

// TestNumbersAreNeverGivenTwice: what was taken away leaves its number unused.
func TestNumbersAreNeverGivenTwice(t *testing.T) {
	l := []dom.Patch{{What: 1, ID: 1, Tag: "p"}, {What: 3, ID: 1}, {What: 1, ID: 1, Tag: "p"}}
	s, n, err := dom.Run(dom.New(), l)
	if tell(s) != tell(display(0, 2)) || n != 2 || err != api.ErrOrder {
		t.Errorf("P10.1: create of what was taken away: %s, %d, %v", tell(s), n, err)
	}
}

// TestUpToTheLimits: from nothing to 1024 nodes, and room again behind a take away.
func TestUpToTheLimits(t *testing.T) {
	var l []dom.Patch
	for i := range most + 1 {
		l = append(l, dom.Patch{What: 1, ID: i + 1, Tag: "p"})
	}
	s, n, err := dom.Run(dom.New(), l)
	if len(s.Nodes) != most || n != most || err != api.ErrFull {
		t.Fatalf("P10.1: 1025 creates: %d nodes, %d, %v", len(s.Nodes), n, err)
	}
	s, n, err = dom.Run(s, []dom.Patch{{What: 3, ID: 500}, l[most], l[most]})
	if len(s.Nodes) != most || s.Next != most+2 || n != 2 || err != api.ErrOrder {
		t.Errorf("P10.1: a create behind a take away: %d nodes, Next %d, %d, %v", len(s.Nodes), s.Next, n, err)
	}
}

// item is a node of a model of the display, in which nodes know each other and not their numbers.
type item struct {
	node  dom.Node
	up    *item
	kids  []*item
	attrs map[string]string
}

type model struct {
	items      map[int]*item
	root, next int
}

func modelOf(s dom.State) *model {
	m := &model{items: map[int]*item{}, root: s.Root, next: s.Next}
	for _, n := range s.Nodes {
		x := &item{node: n, attrs: map[string]string{}}
		for _, a := range n.Attrs {
			x.attrs[a.Name] = a.Value
		}
		m.items[n.ID] = x
	}
	for _, x := range m.items {
		x.up = m.items[x.node.Parent]
		for _, kid := range x.node.Kids {
			x.kids = append(x.kids, m.items[kid])
		}
	}
	return m
}

func (m *model) state() dom.State {
	s := dom.State{Root: m.root, Next: m.next}
	for _, id := range slices.Sorted(maps.Keys(m.items)) {
		x := m.items[id]
		n := dom.Node{ID: id, Tag: x.node.Tag, Key: x.node.Key, Text: x.node.Text}
		if x.up != nil {
			n.Parent = x.up.node.ID
		}
		for _, name := range slices.Sorted(maps.Keys(x.attrs)) {
			n.Attrs = append(n.Attrs, api.Attr{Name: name, Value: x.attrs[name]})
		}
		for _, kid := range x.kids {
			n.Kids = append(n.Kids, kid.node.ID)
		}
		s.Nodes = append(s.Nodes, n)
	}
	return s
}

// contains tells whether y is x, or within it.
func (x *item) contains(y *item) bool {
	return x == y || slices.ContainsFunc(x.kids, func(kid *item) bool { return kid.contains(y) })
}

func (x *item) drop(kid *item) {
	x.kids = slices.DeleteFunc(x.kids, func(y *item) bool { return y == kid })
}

// refusal is why a patch is refused, by the chapter's words alone.
func (m *model) refusal(p dom.Patch) api.Errno {
	first := func(errs ...any) api.Errno {
		for i := 0; i < len(errs); i += 2 {
			if errs[i].(func() bool)() {
				return errs[i+1].(api.Errno)
			}
		}
		return api.OK
	}
	x, up := m.items[p.ID], m.items[p.Parent]
	none := func() bool { return x == nil }
	text := func() bool { return x.node.Tag == "" }
	has := func() bool { _, is := x.attrs[p.Name]; return is }
	others := func() int {
		n := len(up.kids)
		if slices.Contains(up.kids, x) {
			n--
		}
		return n
	}
	switch p.What {
	case 1:
		return first(func() bool { return p.ID != m.next }, api.ErrOrder,
			func() bool { return !byItself(dom.Node{Tag: p.Tag, Key: p.Key, Text: p.Text}) }, api.ErrState,
			func() bool { return len(m.items) == most || m.next == lastNext }, api.ErrFull)
	case 2:
		return first(func() bool { return x == nil || up == nil }, api.ErrNone,
			func() bool { return up.node.Tag == "" }, api.ErrType,
			func() bool { return x.contains(up) }, api.ErrLoop,
			func() bool { return m.root == p.ID }, api.ErrState,
			func() bool { return p.At < 0 || p.At > others() }, api.ErrIndex,
			func() bool { return others() == fan }, api.ErrCount)
	case 3:
		return first(none, api.ErrNone)
	case 4:
		return first(none, api.ErrNone, text, api.ErrType,
			func() bool { return !letters.MatchString(p.Name) }, api.ErrName,
			func() bool { return len(p.Value) > written }, api.ErrLong,
			func() bool { return !has() && len(x.attrs) == named }, api.ErrCount)
	case 5:
		return first(none, api.ErrNone, text, api.ErrType, func() bool { return !has() }, api.ErrName)
	case 6:
		return first(none, api.ErrNone, func() bool { return !text() }, api.ErrType, func() bool { return len(p.Text) > written }, api.ErrLong)
	case 7:
		if p.ID == 0 {
			return api.OK
		}
		return first(none, api.ErrNone, text, api.ErrType, func() bool { return x.up != nil }, api.ErrState)
	}
	return api.ErrKind
}

// take does a patch that is not refused.
func (m *model) take(p dom.Patch) {
	x, up := m.items[p.ID], m.items[p.Parent]
	switch p.What {
	case 1:
		m.items[p.ID] = &item{node: dom.Node{ID: p.ID, Tag: p.Tag, Key: p.Key, Text: p.Text}, attrs: map[string]string{}}
		m.next++
	case 2:
		if x.up != nil {
			x.up.drop(x)
		}
		x.up = up
		up.kids = slices.Insert(up.kids, p.At, x)
	case 3:
		if x.up != nil {
			x.up.drop(x)
		}
		maps.DeleteFunc(m.items, func(id int, y *item) bool { return x.contains(y) })
		if m.items[m.root] == nil {
			m.root = 0
		}
	case 4:
		x.attrs[p.Name] = p.Value
	case 5:
		delete(x.attrs, p.Name)
	case 6:
		x.node.Text = p.Text
	case 7:
		m.root = p.ID
	}
}

// TestApplyByChance: patches by chance, one behind the other, held against the model; and Run of all up to one that is refused.
func TestApplyByChance(t *testing.T) {
	r := chanceOf(1020)
	seen := map[[2]int]int{}
	for range 250 {
		start := r.display(1 + r.Intn(30))
		if r.Intn(4) == 0 {
			start = dom.New()
		}
		m, s := modelOf(start), start
		var l []dom.Patch
		for range 80 {
			p := r.patch(s)
			want := m.refusal(p)
			seen[[2]int{min(max(p.What, 0), 8), int(want)}]++
			x, err := dom.Apply(s, p)
			if err != want {
				t.Fatalf("P10.1: Apply(%s, %.300s): %v, want %v", tell(s), tellPatch(p), err, want)
			}
			ran, n, err := dom.Run(start, append(slices.Clone(l), p))
			if want != api.OK {
				if tell(x) != "root 0 next 0" || tell(ran) != tell(s) || n != len(l) || err != want {
					t.Fatalf("P10.2, P4: %.300s is refused: Apply: %s; Run: %s, %d, %v", tellPatch(p), tell(x), tell(ran), n, err)
				}
				continue
			}
			m.take(p)
			l = append(l, p)
			if tell(x) != tell(m.state()) {
				t.Fatalf("P10.1: Apply(%s, %s): %s, want %s", tell(s), tellPatch(p), tell(x), tell(m.state()))
			}
			if !mayBe(x) || dom.Check(x) != api.OK {
				t.Fatalf("P10.4: behind Apply(%s, %s): %s", tell(s), tellPatch(p), tell(x))
			}
			if tell(ran) != tell(x) || n != len(l) || err != api.OK {
				t.Fatalf("P10.2: Run: %s, %d, %v, want %s", tell(ran), n, err, tell(x))
			}
			s = x
		}
	}
	for what := 1; what <= 7; what++ {
		if seen[[2]int{what, int(api.OK)}] < 50 {
			t.Errorf("the tests' own chance is one-sided: %v", seen)
		}
	}
}

// TestFullNodesByChance: nodes with about as many kids and attributes as may be.
func TestFullNodesByChance(t *testing.T) {
	r := chanceOf(1030)
	s := display(1, 60, manyAttrs(el(1, 0, "p"), named-2), el(2, 0, "b"))
	for i := range 40 {
		s.Nodes = append(s.Nodes, text(i+3, 0, ""))
	}
	m := modelOf(s)
	met := map[api.Errno]int{}
	for range 4000 {
		p := dom.Patch{What: 2, ID: 3 + r.Intn(40), Parent: 1 + r.Intn(8)/7, At: r.Intn(fan + 2)}
		if r.Intn(2) == 0 {
			p = dom.Patch{What: 4 + r.Intn(6)/5, ID: 1, Name: nameOf(r.Intn(named + 3)), Value: r.of("a", "b")}
		}
		want := m.refusal(p)
		met[want]++
		x, err := dom.Apply(s, p)
		if err != want {
			t.Fatalf("P10.1: Apply(%s, %s): %v, want %v", tell(s), tellPatch(p), err, want)
		}
		if err != api.OK {
			continue
		}
		m.take(p)
		if tell(x) != tell(m.state()) || !mayBe(x) {
			t.Fatalf("P10.1: Apply(%s, %s): %s, want %s", tell(s), tellPatch(p), tell(x), tell(m.state()))
		}
		s = x
	}
	if met[api.ErrCount] < 100 || met[api.ErrIndex] < 100 || met[api.OK] < 1000 {
		t.Errorf("the tests' own chance is one-sided: %v", met)
	}
}
