package dom_test

import (
	"math"
	"slices"
	"strings"
	"testing"

	"fanlight/api"
	"fanlight/dom"
)

// done is a patch that is not refused: after tells by hand what it does to a copy of the display.
type done struct {
	name  string
	state dom.State
	patch dom.Patch
	after func(s *dom.State)
}

func created(n dom.Node) func(s *dom.State) {
	return func(s *dom.State) {
		s.Nodes = append(s.Nodes, n)
		s.Next++
	}
}

func creates() []done {
	long := strings.Repeat("x", written)
	l := []done{
		{"an element, the first of all", dom.New(), dom.Patch{What: 1, ID: 1, Tag: "p"}, created(el(1, 0, "p"))},
		{"a text, the first of all", dom.New(), dom.Patch{What: 1, ID: 1, Text: "x"}, created(text(1, 0, "x"))},
		{"an empty text", dom.New(), dom.Patch{What: 1, ID: 1}, created(text(1, 0, ""))},
		{"an element behind others", sample(), dom.Patch{What: 1, ID: 20, Tag: "p", Key: "k"}, created(keyed(el(20, 0, "p"), "k"))},
		{"a long text", sample(), dom.Patch{What: 1, ID: 20, Text: long}, created(text(20, 0, long))},
		{"a long Tag and Key", sample(), dom.Patch{What: 1, ID: 20, Tag: strings.Repeat("z", longest), Key: strings.Repeat("\xff", longest)}, created(keyed(el(20, 0, strings.Repeat("z", longest)), strings.Repeat("\xff", longest)))},
		{"the 1024th", lined(most - 1), dom.Patch{What: 1, ID: most, Tag: "p"}, created(el(most, 0, "p"))},
		{"the last ID of all", display(0, lastNext-1), dom.Patch{What: 1, ID: lastNext - 1, Tag: "p"}, created(el(lastNext-1, 0, "p"))},
		{"fields that a create has not", sample(), dom.Patch{What: 1, ID: 20, Tag: "p", Parent: 10, At: -3, Name: "A", Value: long + "x"}, created(el(20, 0, "p"))},
	}
	return l
}

// hung puts the node into parent by hand: kids are what the parent is to have then.
func hung(id, parent int, kids ...int) func(s *dom.State) {
	return func(s *dom.State) {
		if old := node(*s, node(*s, id).Parent); old != nil {
			old.Kids = slices.DeleteFunc(old.Kids, func(kid int) bool { return kid == id })
		}
		node(*s, id).Parent, node(*s, parent).Kids = parent, kids
	}
}

func hangs() []done {
	all := parted(fan).Nodes[0].Kids
	return []done{
		{"a loose text, the only kid", sample(), dom.Patch{What: 2, ID: 11, Parent: 12}, hung(11, 12, 11)},
		{"a loose element, the first", sample(), dom.Patch{What: 2, ID: 12, Parent: 1}, hung(12, 1, 12, 2, 3, 4)},
		{"a loose element, between", sample(), dom.Patch{What: 2, ID: 12, Parent: 1, At: 2}, hung(12, 1, 2, 3, 12, 4)},
		{"a loose element, the last", sample(), dom.Patch{What: 2, ID: 12, Parent: 1, At: 3}, hung(12, 1, 2, 3, 4, 12)},
		{"with what is within it", sample(), dom.Patch{What: 2, ID: 8, Parent: 5, At: 1}, hung(8, 5, 7, 8)},
		{"from elsewhere", sample(), dom.Patch{What: 2, ID: 6, Parent: 1, At: 1}, hung(6, 1, 2, 6, 3, 4)},
		{"from elsewhere, an only kid", sample(), dom.Patch{What: 2, ID: 9, Parent: 1, At: 3}, hung(9, 1, 2, 3, 4, 9)},
		{"out of the root's tree", sample(), dom.Patch{What: 2, ID: 3, Parent: 12}, hung(3, 12, 3)},
		{"from deep to the root", sample(), dom.Patch{What: 2, ID: 5, Parent: 1}, hung(5, 1, 5, 2, 3, 4)},
		{"where it is already", sample(), dom.Patch{What: 2, ID: 3, Parent: 1, At: 1}, hung(3, 1, 2, 3, 4)},
		{"the first to the last", sample(), dom.Patch{What: 2, ID: 2, Parent: 1, At: 2}, hung(2, 1, 3, 4, 2)},
		{"the first to the middle", sample(), dom.Patch{What: 2, ID: 2, Parent: 1, At: 1}, hung(2, 1, 3, 2, 4)},
		{"the last to the first", sample(), dom.Patch{What: 2, ID: 4, Parent: 1}, hung(4, 1, 4, 2, 3)},
		{"the middle to the last", sample(), dom.Patch{What: 2, ID: 3, Parent: 1, At: 2}, hung(3, 1, 2, 4, 3)},
		{"an only kid where it is", sample(), dom.Patch{What: 2, ID: 9, Parent: 8}, hung(9, 8, 9)},
		{"the 32nd, the last", parted(fan - 1), dom.Patch{What: 2, ID: 33, Parent: 1, At: 31}, hung(33, 1, all...)},
		{"the 32nd, the first", parted(fan - 1), dom.Patch{What: 2, ID: 33, Parent: 1}, hung(33, 1, append([]int{33}, all[:31]...)...)},
		{"one of 32 to the last", parted(fan), dom.Patch{What: 2, ID: 2, Parent: 1, At: 31}, hung(2, 1, append(slices.Clone(all[1:]), 2)...)},
		{"one of 32 to the first", parted(fan), dom.Patch{What: 2, ID: 33, Parent: 1}, hung(33, 1, append([]int{33}, all[:31]...)...)},
		{"under the deepest of 9", display(1, 12, append(deep(9).Nodes, el(10, 0, "b", 11), text(11, 10, "x"))...), dom.Patch{What: 2, ID: 10, Parent: 9}, hung(10, 9, 10)},
		{"a kid with its twin's Key", display(1, 4, el(1, 0, "p", 2), keyed(el(2, 1, "b"), "k"), keyed(el(3, 0, "b"), "k")), dom.Patch{What: 2, ID: 3, Parent: 1, At: 1}, hung(3, 1, 2, 3)},
		{"in a display without a root", display(0, 20, sample().Nodes...), dom.Patch{What: 2, ID: 1, Parent: 12}, hung(1, 12, 1)},
		{"into what has a higher ID, and stands by its kid", sample(), dom.Patch{What: 2, ID: 8, Parent: 12}, hung(8, 12, 8)},
		{"fields that a hang has not", sample(), dom.Patch{What: 2, ID: 11, Parent: 12, Tag: "A", Key: strings.Repeat("k", 99), Text: strings.Repeat("x", 999), Name: "A"}, hung(11, 12, 11)},
	}
}

// away takes nodes out by hand, and the first of them from among its parent's kids.
func away(ids ...int) func(s *dom.State) {
	return func(s *dom.State) {
		if old := node(*s, node(*s, ids[0]).Parent); old != nil {
			old.Kids = slices.DeleteFunc(old.Kids, func(kid int) bool { return kid == ids[0] })
		}
		s.Nodes = slices.DeleteFunc(s.Nodes, func(n dom.Node) bool { return slices.Contains(ids, n.ID) })
		if slices.Contains(ids, s.Root) {
			s.Root = 0
		}
	}
}

func aways() []done {
	var all []int
	for _, n := range deep(most).Nodes {
		all = append(all, n.ID)
	}
	return []done{
		{"the root, and all within", sample(), dom.Patch{What: 3, ID: 1}, away(1, 2, 3, 4, 5, 6, 7)},
		{"within the root, the first", sample(), dom.Patch{What: 3, ID: 2}, away(2)},
		{"within the root, with others within", sample(), dom.Patch{What: 3, ID: 3}, away(3, 5, 6, 7)},
		{"within the root, the last", sample(), dom.Patch{What: 3, ID: 4}, away(4)},
		{"deep within the root", sample(), dom.Patch{What: 3, ID: 5}, away(5, 7)},
		{"an only kid", sample(), dom.Patch{What: 3, ID: 9}, away(9)},
		{"what hangs nowhere, with a kid", sample(), dom.Patch{What: 3, ID: 8}, away(8, 9)},
		{"what hangs nowhere, a text", sample(), dom.Patch{What: 3, ID: 11}, away(11)},
		{"what hangs nowhere, an element", sample(), dom.Patch{What: 3, ID: 12}, away(12)},
		{"the only one", display(1, 2, el(1, 0, "p")), dom.Patch{What: 3, ID: 1}, away(1)},
		{"what was no root", display(0, 20, sample().Nodes...), dom.Patch{What: 3, ID: 1}, away(1, 2, 3, 4, 5, 6, 7)},
		{"what has a parent with a higher ID", display(3, 4, text(1, 2, "x"), el(2, 3, "p", 1), el(3, 0, "p", 2)), dom.Patch{What: 3, ID: 2}, away(2, 1)},
		{"all of 1024 within each other", deep(most), dom.Patch{What: 3, ID: 1}, away(all...)},
		{"the deepest of 1024", deep(most), dom.Patch{What: 3, ID: most}, away(most)},
		{"one of 1024 in a tree", wide(), dom.Patch{What: 3, ID: 2}, away(all[1:34]...)},
		{"one with the highest ID", display(0, lastNext, text(lastNext-1, 0, "x")), dom.Patch{What: 3, ID: lastNext - 1}, away(lastNext - 1)},
	}
}

// attrs gives the node these attributes, told as names and values by turns.
func attrs(id int, words ...string) func(s *dom.State) {
	return func(s *dom.State) {
		node(*s, id).Attrs = with(dom.Node{}, words...).Attrs
	}
}

func sets() []done {
	long := strings.Repeat("x", written)
	l := []done{
		{"of none", sample(), dom.Patch{What: 4, ID: 1, Name: "a", Value: "v"}, attrs(1, "a", "v")},
		{"an empty Value", sample(), dom.Patch{What: 4, ID: 12, Name: "a"}, attrs(12, "a", "")},
		{"ahead of others", sample(), dom.Patch{What: 4, ID: 3, Name: "a", Value: "v"}, attrs(3, "a", "v", "b", "1", "d", "2")},
		{"between others", sample(), dom.Patch{What: 4, ID: 3, Name: "c", Value: "v"}, attrs(3, "b", "1", "c", "v", "d", "2")},
		{"behind one that it begins with", sample(), dom.Patch{What: 4, ID: 3, Name: "bb", Value: "v"}, attrs(3, "b", "1", "bb", "v", "d", "2")},
		{"behind others", sample(), dom.Patch{What: 4, ID: 3, Name: "z", Value: "v"}, attrs(3, "b", "1", "d", "2", "z", "v")},
		{"one that is there, the first", sample(), dom.Patch{What: 4, ID: 3, Name: "b", Value: "v"}, attrs(3, "b", "v", "d", "2")},
		{"one that is there, the last", sample(), dom.Patch{What: 4, ID: 3, Name: "d", Value: ""}, attrs(3, "b", "1", "d", "")},
		{"one that is there and is so already", sample(), dom.Patch{What: 4, ID: 3, Name: "d", Value: "2"}, attrs(3, "b", "1", "d", "2")},
		{"a long Name and Value", sample(), dom.Patch{What: 4, ID: 8, Name: strings.Repeat("z", longest), Value: long}, attrs(8, strings.Repeat("z", longest), long)},
		{"a Value of any octets", sample(), dom.Patch{What: 4, ID: 8, Name: "key", Value: "\xff\x00\""}, attrs(8, "key", "\xff\x00\"")},
		{"fields that a set has not", sample(), dom.Patch{What: 4, ID: 1, Name: "a", Value: "v", Parent: 99, At: -1, Tag: "A", Key: long, Text: long + "x"}, attrs(1, "a", "v")},
	}
	for at := range named {
		s := display(1, 2, manyAttrs(el(1, 0, "p"), named))
		l = append(l, done{"one of 16", s, dom.Patch{What: 4, ID: 1, Name: nameOf(at), Value: "v"}, func(s *dom.State) { s.Nodes[0].Attrs[at].Value = "v" }})
	}
	for at := range named {
		s := display(1, 2, manyAttrs(el(1, 0, "p"), named))
		fewer := clone(s)
		fewer.Nodes[0].Attrs = slices.Delete(fewer.Nodes[0].Attrs, at, at+1)
		l = append(l, done{"the sixteenth", fewer, dom.Patch{What: 4, ID: 1, Name: nameOf(at), Value: s.Nodes[0].Attrs[at].Value}, func(x *dom.State) { *x = s }})
	}
	return l
}

func unsets() []done {
	l := []done{
		{"the first", sample(), dom.Patch{What: 5, ID: 3, Name: "b"}, attrs(3, "d", "2")},
		{"the last", sample(), dom.Patch{What: 5, ID: 3, Name: "d"}, attrs(3, "b", "1")},
		{"the only one", display(1, 2, with(el(1, 0, "p"), "a", "1")), dom.Patch{What: 5, ID: 1, Name: "a"}, attrs(1)},
		{"fields that an unset has not", sample(), dom.Patch{What: 5, ID: 3, Name: "b", Value: strings.Repeat("x", 999), Parent: 99, At: -1}, attrs(3, "d", "2")},
	}
	for at := range named {
		s := display(1, 2, manyAttrs(el(1, 0, "p"), named))
		l = append(l, done{"one of 16", s, dom.Patch{What: 5, ID: 1, Name: nameOf(at)}, func(s *dom.State) { s.Nodes[0].Attrs = slices.Delete(s.Nodes[0].Attrs, at, at+1) }})
	}
	return l
}

func textsAndRoots() []done {
	l := []done{
		{"a text as it is", sample(), dom.Patch{What: 6, ID: 2, Text: "a"}, func(s *dom.State) {}},
		{"fields that a text has not", sample(), dom.Patch{What: 6, ID: 2, Text: "b", Tag: "p", Key: "k", Name: "A", Parent: -1}, func(s *dom.State) { node(*s, 2).Text = "b" }},
		{"root: another one", sample(), dom.Patch{What: 7, ID: 12}, func(s *dom.State) { s.Root = 12 }},
		{"root: another one with kids", sample(), dom.Patch{What: 7, ID: 8}, func(s *dom.State) { s.Root = 8 }},
		{"root: the same", sample(), dom.Patch{What: 7, ID: 1}, func(s *dom.State) {}},
		{"root: none", sample(), dom.Patch{What: 7, ID: 0}, func(s *dom.State) { s.Root = 0 }},
		{"root: none, where none was", dom.New(), dom.Patch{What: 7}, func(s *dom.State) {}},
		{"root: one, where none was", display(0, 20, sample().Nodes...), dom.Patch{What: 7, ID: 1}, func(s *dom.State) { s.Root = 1 }},
		{"root: of 1024 within each other", display(0, most+1, deep(most).Nodes...), dom.Patch{What: 7, ID: 1}, func(s *dom.State) { s.Root = 1 }},
		{"fields that a root has not", sample(), dom.Patch{What: 7, ID: 12, Parent: -5, At: 99, Text: strings.Repeat("x", 999)}, func(s *dom.State) { s.Root = 12 }},
	}
	for _, words := range goodTexts() {
		for _, id := range []int{2, 4, 7, 11} {
			l = append(l, done{"a text", sample(), dom.Patch{What: 6, ID: id, Text: words}, func(s *dom.State) { node(*s, id).Text = words }})
		}
	}
	return l
}

func allDone() []done {
	return slices.Concat(creates(), hangs(), aways(), sets(), unsets(), textsAndRoots())
}

func TestApply(t *testing.T) {
	for _, c := range allDone() {
		want := clone(c.state)
		c.after(&want)
		if !mayBe(c.state) || !mayBe(want) {
			t.Fatalf("the tests' own display may not be: patch %d, %s", c.patch.What, c.name)
		}
		for _, s := range []dom.State{c.state, bare(c.state), full(c.state)} {
			x, err := dom.Apply(s, c.patch)
			if tell(x) != tell(want) || err != api.OK {
				t.Errorf("P10.1: Apply(%+v), %s: %.2000s, %v, want %.2000s", c.patch, c.name, tell(x), err, tell(want))
			}
			if err := dom.Check(x); err != api.OK {
				t.Errorf("P10.4: Check behind Apply(%+v), %s: %v", c.patch, c.name, err)
			}
			if x, n, err := dom.Run(s, []dom.Patch{c.patch}); tell(x) != tell(want) || n != 1 || err != api.OK {
				t.Errorf("P10.2: Run(%+v), %s: %.2000s, %d, %v, want %.2000s", c.patch, c.name, tell(x), n, err, tell(want))
			}
		}
	}
}

// refused is a patch that is refused.
type refused struct {
	name  string
	state dom.State
	patch dom.Patch
	err   api.Errno
}

func badCreates() []refused {
	long := strings.Repeat("x", written+1)
	atEnd := display(0, lastNext)
	l := []refused{
		{"ahead of Next", sample(), dom.Patch{What: 1, ID: 19, Tag: "p"}, api.ErrOrder},
		{"behind Next", sample(), dom.Patch{What: 1, ID: 21, Tag: "p"}, api.ErrOrder},
		{"an ID that was never there", sample(), dom.Patch{What: 1, ID: 10, Tag: "p"}, api.ErrOrder},
		{"an ID that is there", sample(), dom.Patch{What: 1, ID: 1, Tag: "p"}, api.ErrOrder},
		{"ID 0", dom.New(), dom.Patch{What: 1, Tag: "p"}, api.ErrOrder},
		{"an element with a Text", sample(), dom.Patch{What: 1, ID: 20, Tag: "p", Text: "x"}, api.ErrState},
		{"a text with a Key", sample(), dom.Patch{What: 1, ID: 20, Key: "k", Text: "x"}, api.ErrState},
		{"a Key alone", sample(), dom.Patch{What: 1, ID: 20, Key: "k"}, api.ErrState},
		{"a text of 129 octets", sample(), dom.Patch{What: 1, ID: 20, Text: long}, api.ErrState},
		{"a Key of 17 octets", sample(), dom.Patch{What: 1, ID: 20, Tag: "p", Key: long[:longest+1]}, api.ErrState},
		{"the 1025th", lined(most), dom.Patch{What: 1, ID: most + 1, Tag: "p"}, api.ErrFull},
		{"the 1025th, all in a tree", wide(), dom.Patch{What: 1, ID: most + 1, Text: "x"}, api.ErrFull},
		{"Next 2^31 - 1", atEnd, dom.Patch{What: 1, ID: lastNext, Tag: "p"}, api.ErrFull},
		{"Next 2^31 - 1, the 1025th", display(0, lastNext, lined(most).Nodes...), dom.Patch{What: 1, ID: lastNext, Tag: "p"}, api.ErrFull},
		{"out of order, and may not be", sample(), dom.Patch{What: 1, ID: 21, Text: long}, api.ErrOrder},
		{"out of order, and the 1025th", lined(most), dom.Patch{What: 1, ID: most, Tag: "p"}, api.ErrOrder},
		{"out of order, at the end", atEnd, dom.Patch{What: 1, ID: lastNext + 1, Tag: "p"}, api.ErrOrder},
		{"may not be, and the 1025th", lined(most), dom.Patch{What: 1, ID: most + 1, Tag: "A"}, api.ErrState},
		{"may not be, at the end", atEnd, dom.Patch{What: 1, ID: lastNext, Key: "k"}, api.ErrState},
		{"out of order, may not be, and the 1025th", lined(most), dom.Patch{What: 1, ID: most + 2, Tag: "A"}, api.ErrOrder},
	}
	for _, tag := range badTags() {
		l = append(l, refused{"a Tag", sample(), dom.Patch{What: 1, ID: 20, Tag: tag}, api.ErrState})
	}
	for _, id := range oddNumbers() {
		l = append(l, refused{"an odd ID", sample(), dom.Patch{What: 1, ID: id, Tag: "p"}, api.ErrOrder})
	}
	return l
}

func badHangs() []refused {
	noRoot := display(0, 20, sample().Nodes...)
	many := parted(fan)
	l := []refused{
		{"of what is none", sample(), dom.Patch{What: 2, ID: 10, Parent: 1}, api.ErrNone},
		{"in what is none", sample(), dom.Patch{What: 2, ID: 11, Parent: 10}, api.ErrNone},
		{"in Next", sample(), dom.Patch{What: 2, ID: 11, Parent: 20}, api.ErrNone},
		{"in 0", sample(), dom.Patch{What: 2, ID: 2, Parent: 0}, api.ErrNone},
		{"of 0", sample(), dom.Patch{What: 2, ID: 0, Parent: 1}, api.ErrNone},
		{"of none in none", dom.New(), dom.Patch{What: 2, ID: 1, Parent: 1}, api.ErrNone},
		{"in a text", sample(), dom.Patch{What: 2, ID: 12, Parent: 11}, api.ErrType},
		{"in a text that hangs", sample(), dom.Patch{What: 2, ID: 12, Parent: 2}, api.ErrType},
		{"in itself", sample(), dom.Patch{What: 2, ID: 12, Parent: 12}, api.ErrLoop},
		{"in itself, with kids", sample(), dom.Patch{What: 2, ID: 3, Parent: 3}, api.ErrLoop},
		{"in its kid", sample(), dom.Patch{What: 2, ID: 3, Parent: 5}, api.ErrLoop},
		{"in what is deep within it", noRoot, dom.Patch{What: 2, ID: 1, Parent: 5}, api.ErrLoop},
		{"in the deepest of 1024 within it", display(0, most+1, deep(most).Nodes...), dom.Patch{What: 2, ID: 1, Parent: most}, api.ErrLoop},
		{"the Root", sample(), dom.Patch{What: 2, ID: 1, Parent: 12}, api.ErrState},
		{"the Root in what has kids", sample(), dom.Patch{What: 2, ID: 1, Parent: 8, At: 1}, api.ErrState},
		{"at -1", sample(), dom.Patch{What: 2, ID: 12, Parent: 1, At: -1}, api.ErrIndex},
		{"one above the number of kids", sample(), dom.Patch{What: 2, ID: 12, Parent: 1, At: 4}, api.ErrIndex},
		{"one above, in what has none", sample(), dom.Patch{What: 2, ID: 11, Parent: 12, At: 1}, api.ErrIndex},
		{"elsewhere among the same, one above", sample(), dom.Patch{What: 2, ID: 2, Parent: 1, At: 3}, api.ErrIndex},
		{"the last among the same, one above", sample(), dom.Patch{What: 2, ID: 4, Parent: 1, At: 3}, api.ErrIndex},
		{"an only kid, one above", sample(), dom.Patch{What: 2, ID: 9, Parent: 8, At: 1}, api.ErrIndex},
		{"one of 32, one above", many, dom.Patch{What: 2, ID: 2, Parent: 1, At: 32}, api.ErrIndex},
		{"with 32 others, the first", many, dom.Patch{What: 2, ID: 35, Parent: 1}, api.ErrCount},
		{"with 32 others, the last", many, dom.Patch{What: 2, ID: 34, Parent: 1, At: 32}, api.ErrCount},
		{"of none in a text", sample(), dom.Patch{What: 2, ID: 10, Parent: 11}, api.ErrNone},
		{"of none at -1", sample(), dom.Patch{What: 2, ID: 10, Parent: 1, At: -1}, api.ErrNone},
		{"the Root in none", sample(), dom.Patch{What: 2, ID: 1, Parent: 10}, api.ErrNone},
		{"of none, with 32 others", many, dom.Patch{What: 2, ID: 99, Parent: 1}, api.ErrNone},
		{"a text in itself", sample(), dom.Patch{What: 2, ID: 11, Parent: 11}, api.ErrType},
		{"in a text that is within it", sample(), dom.Patch{What: 2, ID: 3, Parent: 7}, api.ErrType},
		{"the Root in a text", sample(), dom.Patch{What: 2, ID: 1, Parent: 11}, api.ErrType},
		{"the Root in a text within it", sample(), dom.Patch{What: 2, ID: 1, Parent: 2}, api.ErrType},
		{"in a text at -1", sample(), dom.Patch{What: 2, ID: 12, Parent: 11, At: -1}, api.ErrType},
		{"in a text at 1", sample(), dom.Patch{What: 2, ID: 12, Parent: 11, At: 1}, api.ErrType},
		{"the Root in itself", sample(), dom.Patch{What: 2, ID: 1, Parent: 1}, api.ErrLoop},
		{"the Root in what is within it", sample(), dom.Patch{What: 2, ID: 1, Parent: 3}, api.ErrLoop},
		{"in itself at -1", sample(), dom.Patch{What: 2, ID: 3, Parent: 3, At: -1}, api.ErrLoop},
		{"in its kid at 9", sample(), dom.Patch{What: 2, ID: 3, Parent: 5, At: 9}, api.ErrLoop},
		{"in itself, with 32 others", many, dom.Patch{What: 2, ID: 1, Parent: 1}, api.ErrLoop},
		{"the Root at -1", sample(), dom.Patch{What: 2, ID: 1, Parent: 12, At: -1}, api.ErrState},
		{"the Root at 1", sample(), dom.Patch{What: 2, ID: 1, Parent: 12, At: 1}, api.ErrState},
		{"the Root, with 32 others", display(35, 36, many.Nodes...), dom.Patch{What: 2, ID: 35, Parent: 1}, api.ErrState},
		{"at 33, with 32 others", many, dom.Patch{What: 2, ID: 35, Parent: 1, At: 33}, api.ErrIndex},
		{"at -1, with 32 others", many, dom.Patch{What: 2, ID: 35, Parent: 1, At: -1}, api.ErrIndex},
	}
	for _, odd := range oddNumbers() {
		l = append(l, refused{"of an odd ID", sample(), dom.Patch{What: 2, ID: odd, Parent: 1}, api.ErrNone})
		l = append(l, refused{"in an odd ID", sample(), dom.Patch{What: 2, ID: 12, Parent: odd}, api.ErrNone})
		if odd != 0 {
			l = append(l, refused{"at an odd place", sample(), dom.Patch{What: 2, ID: 12, Parent: 1, At: odd}, api.ErrIndex})
		}
	}
	return l
}

func badSets() []refused {
	long := strings.Repeat("x", written+1)
	whole := display(1, 3, manyAttrs(el(1, 0, "p"), named), text(2, 0, "x"))
	l := []refused{
		{"of none", sample(), dom.Patch{What: 4, ID: 10, Name: "a"}, api.ErrNone},
		{"of a text", sample(), dom.Patch{What: 4, ID: 2, Name: "a"}, api.ErrType},
		{"an empty Name", sample(), dom.Patch{What: 4, ID: 1}, api.ErrName},
		{"a Value of 129 octets", sample(), dom.Patch{What: 4, ID: 1, Name: "a", Value: long}, api.ErrLong},
		{"one that is there, a Value of 129 octets", sample(), dom.Patch{What: 4, ID: 3, Name: "b", Value: long}, api.ErrLong},
		{"a seventeenth, the first", whole, dom.Patch{What: 4, ID: 1, Name: "a"}, api.ErrCount},
		{"a seventeenth, between", whole, dom.Patch{What: 4, ID: 1, Name: "bb"}, api.ErrCount},
		{"a seventeenth, the last", whole, dom.Patch{What: 4, ID: 1, Name: "z"}, api.ErrCount},
		{"of none, no Name", sample(), dom.Patch{What: 4, ID: 10, Value: long}, api.ErrNone},
		{"of a text, no Name", sample(), dom.Patch{What: 4, ID: 2, Value: long}, api.ErrType},
		{"of a text, a long Value", sample(), dom.Patch{What: 4, ID: 2, Name: "a", Value: long}, api.ErrType},
		{"no Name, a long Value", sample(), dom.Patch{What: 4, ID: 1, Value: long}, api.ErrName},
		{"no Name, a seventeenth", whole, dom.Patch{What: 4, ID: 1}, api.ErrName},
		{"a long Value, a seventeenth", whole, dom.Patch{What: 4, ID: 1, Name: "z", Value: long}, api.ErrLong},
		{"unset of none", sample(), dom.Patch{What: 5, ID: 10, Name: "b"}, api.ErrNone},
		{"unset of a text", sample(), dom.Patch{What: 5, ID: 2, Name: "b"}, api.ErrType},
		{"unset of one that is not there", sample(), dom.Patch{What: 5, ID: 3, Name: "c"}, api.ErrName},
		{"unset of one that another has", sample(), dom.Patch{What: 5, ID: 1, Name: "b"}, api.ErrName},
		{"unset of one that begins so", sample(), dom.Patch{What: 5, ID: 3, Name: "bb"}, api.ErrName},
		{"unset ahead of all", sample(), dom.Patch{What: 5, ID: 3, Name: "a"}, api.ErrName},
		{"unset behind all", sample(), dom.Patch{What: 5, ID: 3, Name: "e"}, api.ErrName},
		{"unset of no Name", sample(), dom.Patch{What: 5, ID: 3}, api.ErrName},
		{"unset of the Key", sample(), dom.Patch{What: 5, ID: 3, Name: "k"}, api.ErrName},
		{"unset of none, no Name", sample(), dom.Patch{What: 5, ID: 10}, api.ErrNone},
		{"unset of a text, no Name", sample(), dom.Patch{What: 5, ID: 2}, api.ErrType},
	}
	for _, name := range badTags() {
		l = append(l, refused{"a Name", sample(), dom.Patch{What: 4, ID: 3, Name: name}, api.ErrName}, refused{"unset of a Name", sample(), dom.Patch{What: 5, ID: 3, Name: name}, api.ErrName})
	}
	for _, value := range badTexts() {
		l = append(l, refused{"a Value", sample(), dom.Patch{What: 4, ID: 1, Name: "a", Value: value}, api.ErrLong})
	}
	return l
}

func otherBad() []refused {
	long := strings.Repeat("x", written+1)
	l := []refused{
		{"text of none", sample(), dom.Patch{What: 6, ID: 10, Text: "x"}, api.ErrNone},
		{"text of an element", sample(), dom.Patch{What: 6, ID: 1, Text: "x"}, api.ErrType},
		{"no text of an element", sample(), dom.Patch{What: 6, ID: 12}, api.ErrType},
		{"text of none, long", sample(), dom.Patch{What: 6, ID: 10, Text: long}, api.ErrNone},
		{"text of an element, long", sample(), dom.Patch{What: 6, ID: 1, Text: long}, api.ErrType},
		{"root of none", sample(), dom.Patch{What: 7, ID: 10}, api.ErrNone},
		{"root of Next", sample(), dom.Patch{What: 7, ID: 20}, api.ErrNone},
		{"root of a text", sample(), dom.Patch{What: 7, ID: 11}, api.ErrType},
		{"root of a text with a Parent", sample(), dom.Patch{What: 7, ID: 2}, api.ErrType},
		{"root of a node with a Parent", sample(), dom.Patch{What: 7, ID: 3}, api.ErrState},
		{"root of a node with a Parent, deep", sample(), dom.Patch{What: 7, ID: 5}, api.ErrState},
		{"take away of none", sample(), dom.Patch{What: 3, ID: 10}, api.ErrNone},
		{"take away of Next", sample(), dom.Patch{What: 3, ID: 20}, api.ErrNone},
		{"take away where nothing is", dom.New(), dom.Patch{What: 3, ID: 1}, api.ErrNone},
	}
	for _, words := range badTexts() {
		l = append(l, refused{"a Text", sample(), dom.Patch{What: 6, ID: 2, Text: words}, api.ErrLong})
	}
	for _, odd := range oddNumbers() {
		for what := 3; what <= 7; what++ {
			if what < 7 || odd != 0 {
				l = append(l, refused{"of an odd ID", sample(), dom.Patch{What: what, ID: odd, Name: "b", Text: "x"}, api.ErrNone})
			}
		}
	}
	for _, what := range []int{math.MinInt, -1, 0, 8, 9, 256 + 1, 1<<32 + 1, math.MaxInt} {
		for _, p := range []dom.Patch{{}, {ID: 20, Tag: "p"}, {ID: 12, Parent: 1}, {ID: 10}, {ID: 3, Name: "b"}, {ID: 2, Text: long}} {
			p.What = what
			l = append(l, refused{"What", sample(), p, api.ErrKind})
		}
	}
	return l
}

func allRefused() []refused {
	return slices.Concat(badCreates(), badHangs(), badSets(), otherBad())
}

// TestApplyRefuses: beside the error there is no state; of Run there is the one ahead.
func TestApplyRefuses(t *testing.T) {
	for _, c := range allRefused() {
		for _, s := range []dom.State{c.state, bare(c.state), full(c.state)} {
			if !mayBe(s) {
				t.Fatalf("the tests' own display may not be: %s", c.name)
			}
			if x, err := dom.Apply(s, c.patch); tell(x) != "root 0 next 0" || err != c.err {
				t.Errorf("P10.1, P4: Apply(%.200s), %s: %.2000s, %v, want %v", tellPatch(c.patch), c.name, tell(x), err, c.err)
			}
			if x, n, err := dom.Run(s, []dom.Patch{c.patch}); tell(x) != tell(s) || n != 0 || err != c.err {
				t.Errorf("P10.2: Run(%.200s), %s: %.2000s, %d, %v, want %v", tellPatch(c.patch), c.name, tell(x), n, err, c.err)
			}
		}
	}
}
