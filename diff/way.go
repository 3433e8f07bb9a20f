package diff

import (
	"slices"

	"fanlight/api"
	"fanlight/dom"
	"fanlight/lis"
)

// What a patch does.
const (
	patchCreate = iota + 1
	patchHang
	patchAway
	patchSet
	patchUnset
	patchText
	patchRoot
)

const maxNext = 1<<31 - 1

// node is one of the display's on its way. Of what it embeds, Kids alone follow the patches, for nothing else is asked for behind its patch.
type node struct {
	dom.Node
	paired bool
	place  int // of its pair, among the kids of the tree
	stays  bool
}

// way is how far a display has come, and by which patches.
type way struct {
	nodes   map[int]node
	next    int
	patches []dom.Patch
}

func wayFrom(s dom.State) *way {
	w := &way{nodes: map[int]node{}, next: s.Next}
	for _, n := range s.Nodes {
		w.nodes[n.ID] = node{Node: n}
	}
	return w
}

func (w *way) put(p dom.Patch) {
	w.patches = append(w.patches, p)
}

// turn makes the display's tree t.
func (w *way) turn(root int, t api.Tree) {
	if root != 0 && Fits(w.nodes[root].Node, t) {
		w.match(root, t)
		return
	}
	if root != 0 {
		w.takeAway(root)
	}
	id := w.create(t)
	w.match(id, t)
	w.put(dom.Patch{What: patchRoot, ID: id})
}

// match makes t of a node that fits it. One that was just created has nothing that could go or stay, so that these are also the patches by which it is filled.
func (w *way) match(id int, t api.Tree) {
	n := w.nodes[id]
	if isText(t) {
		if n.Text != t.Text {
			w.put(dom.Patch{What: patchText, ID: id, Text: t.Text})
		}
		return
	}
	w.matchAttrs(n, t.Attrs)
	w.matchKids(id, t.Kids)
}

func (w *way) matchAttrs(n node, attrs []api.Attr) {
	for _, old := range n.Attrs {
		named := func(attr api.Attr) bool { return attr.Name == old.Name }
		if !slices.ContainsFunc(attrs, named) {
			w.put(dom.Patch{What: patchUnset, ID: n.ID, Name: old.Name})
		}
	}
	for _, attr := range attrs {
		if !slices.Contains(n.Attrs, attr) {
			w.put(dom.Patch{What: patchSet, ID: n.ID, Name: attr.Name, Value: attr.Value})
		}
	}
}

// matchKids first has all kids in their places, and only then looks into those with a pair.
func (w *way) matchKids(id int, kids []api.Tree) {
	pairs := w.pair(w.nodes[id].Kids, kids)
	w.takeUnpaired(id)
	w.settle(w.nodes[id].Kids)
	ahead := 0
	for place, kid := range kids {
		kidID, paired := pairs[place]
		switch {
		case !paired:
			kidID = w.create(kid)
			w.hang(kidID, id, ahead)
			w.match(kidID, kid)
		case !w.nodes[kidID].stays:
			w.hang(kidID, id, ahead)
		}
		ahead = kidID
	}
	for place, kid := range kids {
		if kidID, paired := pairs[place]; paired {
			w.match(kidID, kid)
		}
	}
}

// pair answers the IDs of those among ids that have a pair among kids, by its place.
func (w *way) pair(ids []int, kids []api.Tree) map[int]int {
	pairs := map[int]int{}
	for place, kid := range kids {
		free := func(id int) bool { return !w.nodes[id].paired && Fits(w.nodes[id].Node, kid) }
		at := slices.IndexFunc(ids, free)
		if at < 0 {
			continue
		}
		n := w.nodes[ids[at]]
		n.paired, n.place = true, place
		w.nodes[n.ID] = n
		pairs[place] = n.ID
	}
	return pairs
}

// takeUnpaired leaves the node a new list of kids, for the one that it came with is the caller's, and hang writes into it.
func (w *way) takeUnpaired(id int) {
	n := w.nodes[id]
	var left []int
	for _, kid := range n.Kids {
		if w.nodes[kid].paired {
			left = append(left, kid)
		} else {
			w.takeAway(kid)
		}
	}
	n.Kids = left
	w.nodes[id] = n
}

// settle finds out which of a node's kids, all of which have a pair, need not be hung anew.
func (w *way) settle(ids []int) {
	var places []int
	for _, id := range ids {
		places = append(places, w.nodes[id].place)
	}
	// No error, for no more than a tree's 16 kids have a pair.
	stay, _ := lis.Longest(places)
	for _, at := range stay {
		n := w.nodes[ids[at]]
		n.stays = true
		w.nodes[n.ID] = n
	}
}

// create answers the new node's ID. It panics, with the error's number, where there is no room for one.
func (w *way) create(t api.Tree) int {
	if len(w.nodes) == api.MaxDOM || w.next == maxNext {
		panic(api.ErrFull)
	}
	n := dom.Node{ID: w.next, Tag: t.Tag, Key: t.Key, Text: t.Text}
	w.nodes[n.ID] = node{Node: n}
	w.next++
	w.put(dom.Patch{What: patchCreate, ID: n.ID, Tag: n.Tag, Key: n.Key, Text: n.Text})
	return n.ID
}

// hang puts id right behind the kid ahead of it. For the first that is 0, which no kid is, and so not found: the place behind it is 0.
func (w *way) hang(id, parent, ahead int) {
	up := w.nodes[parent]
	others := slices.DeleteFunc(up.Kids, func(kid int) bool { return kid == id })
	at := slices.Index(others, ahead) + 1
	up.Kids = slices.Insert(others, at, id)
	w.nodes[parent] = up
	w.put(dom.Patch{What: patchHang, ID: id, Parent: parent, At: at})
}

func (w *way) takeAway(id int) {
	w.forget(id)
	w.put(dom.Patch{What: patchAway, ID: id})
}

// forget goes no deeper than the root's tree, which is no more than 8 deep.
func (w *way) forget(id int) {
	for _, kid := range w.nodes[id].Kids {
		w.forget(kid)
	}
	delete(w.nodes, id)
}
