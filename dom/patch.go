package dom

import (
	"slices"
	"strings"

	"fanlight/api"
	"fanlight/tree"
)

// Patch is plain data: see the chapter.
type Patch struct {
	What   int
	ID     int
	Parent int
	At     int
	Tag    string
	Key    string
	Text   string
	Name   string
	Value  string
}

// What a patch does.
const (
	patchCreate = iota + 1
	patchHang
	patchAway
	patchSet
	patchUnset
	patchText
	patchRoot
)

// Apply answers s behind p.
func Apply(s State, p Patch) (State, api.Errno) {
	if err := Check(s); err != api.OK {
		return State{}, err
	}
	now := copyOf(s)
	if err := take(&now, p); err != api.OK {
		return State{}, err
	}
	return now, api.OK
}

// take does p, or answers why it is refused and has changed nothing. It writes into own, which may be, and which nobody else may hold.
func take(own *State, p Patch) api.Errno {
	switch p.What {
	case patchCreate:
		return create(own, p)
	case patchHang:
		return hang(own, p)
	case patchAway:
		return takeAway(own, p)
	case patchSet:
		return set(own, p)
	case patchUnset:
		return unset(own, p)
	case patchText:
		return setText(own, p)
	case patchRoot:
		return setRoot(own, p)
	}
	return api.ErrKind
}

func create(own *State, p Patch) api.Errno {
	n := Node{ID: p.ID, Tag: p.Tag, Key: p.Key, Text: p.Text}
	switch {
	case p.ID != own.Next:
		return api.ErrOrder
	case !mayBeAlone(n):
		return api.ErrState
	case len(own.Nodes) == api.MaxDOM || own.Next == maxNext:
		return api.ErrFull
	}
	own.Nodes = append(own.Nodes, n)
	own.Next++
	return api.OK
}

func hang(own *State, p Patch) api.Errno {
	n, parent := find(own.Nodes, p.ID), find(own.Nodes, p.Parent)
	if n == nil || parent == nil {
		return api.ErrNone
	}
	kids := withoutID(parent.Kids, p.ID)
	switch {
	case isText(*parent):
		return api.ErrType
	case isWithin(own.Nodes, p.Parent, p.ID):
		return api.ErrLoop
	case p.ID == own.Root:
		return api.ErrState
	case p.At < 0 || p.At > len(kids):
		return api.ErrIndex
	case len(kids) == maxKids:
		return api.ErrCount
	}
	takeOff(own.Nodes, *n)
	parent.Kids = slices.Insert(kids, p.At, p.ID)
	n.Parent = p.Parent
	return api.OK
}

func takeAway(own *State, p Patch) api.Errno {
	n := find(own.Nodes, p.ID)
	if n == nil {
		return api.ErrNone
	}
	takeOff(own.Nodes, *n)
	gone := map[int]struct{}{}
	mark(gone, own.Nodes, p.ID)
	if _, is := gone[own.Root]; is {
		own.Root = 0
	}
	own.Nodes = without(own.Nodes, func(n Node) bool {
		_, is := gone[n.ID]
		return is
	})
	return api.OK
}

func set(own *State, p Patch) api.Errno {
	n := find(own.Nodes, p.ID)
	switch {
	case n == nil:
		return api.ErrNone
	case isText(*n):
		return api.ErrType
	case !isName(p.Name):
		return api.ErrName
	case len(p.Value) > api.MaxText:
		return api.ErrLong
	}
	at, there := attrPlace(n.Attrs, p.Name)
	switch {
	case there:
		n.Attrs[at].Value = p.Value
	case len(n.Attrs) == maxAttrs:
		return api.ErrCount
	default:
		n.Attrs = slices.Insert(n.Attrs, at, api.Attr{Name: p.Name, Value: p.Value})
	}
	return api.OK
}

func unset(own *State, p Patch) api.Errno {
	n := find(own.Nodes, p.ID)
	switch {
	case n == nil:
		return api.ErrNone
	case isText(*n):
		return api.ErrType
	}
	if _, there := attrPlace(n.Attrs, p.Name); !there {
		return api.ErrName
	}
	n.Attrs = without(n.Attrs, func(attr api.Attr) bool { return attr.Name == p.Name })
	return api.OK
}

func setText(own *State, p Patch) api.Errno {
	n := find(own.Nodes, p.ID)
	switch {
	case n == nil:
		return api.ErrNone
	case !isText(*n):
		return api.ErrType
	case len(p.Text) > api.MaxText:
		return api.ErrLong
	}
	n.Text = p.Text
	return api.OK
}

func setRoot(own *State, p Patch) api.Errno {
	if p.ID == 0 {
		own.Root = 0
		return api.OK
	}
	n := find(own.Nodes, p.ID)
	switch {
	case n == nil:
		return api.ErrNone
	case isText(*n):
		return api.ErrType
	case n.Parent != 0:
		return api.ErrState
	}
	own.Root = p.ID
	return api.OK
}

// isWithin goes up from id, which comes to an end in a display that may be.
func isWithin(nodes []Node, id, outer int) bool {
	for id != 0 && id != outer {
		id = find(nodes, id).Parent
	}
	return id == outer
}

// takeOff takes n from among its parent's kids, if it hangs anywhere; that n has no parent any more is left to the caller, who may have another one for it.
func takeOff(nodes []Node, n Node) {
	if n.Parent == 0 {
		return
	}
	parent := find(nodes, n.Parent)
	parent.Kids = withoutID(parent.Kids, n.ID)
}

func withoutID(ids []int, id int) []int {
	return without(ids, func(other int) bool { return other == id })
}

// mark puts id, and all within it, among what is gone.
func mark(gone map[int]struct{}, nodes []Node, id int) {
	gone[id] = struct{}{}
	for _, kid := range find(nodes, id).Kids {
		mark(gone, nodes, kid)
	}
}

// attrPlace answers where the attribute stands among attrs, or where it would, and whether it is there.
func attrPlace(attrs []api.Attr, name string) (int, bool) {
	return slices.BinarySearchFunc(attrs, name, func(attr api.Attr, name string) int { return strings.Compare(attr.Name, name) })
}

// isName asks tree, for a Name is made of what a Tag is made of.
func isName(name string) bool {
	return tree.Check(api.Tree{Tag: name}) == api.OK
}
