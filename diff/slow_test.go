package diff_test

import (
	"slices"

	"fanlight/api"
	"fanlight/dom"
)

// slow works the patches out by the chapter's words, slowly: each is done at once on the display itself, on which places, numbers and want of room are then read off.
type slow struct {
	display dom.State
	patches []dom.Patch
	err     api.Errno
}

// slowly takes a display and a tree that may be.
func slowly(s dom.State, t api.Tree) ([]dom.Patch, dom.State, api.Errno) {
	w := &slow{display: s}
	if s.Root != 0 && fits(*node(s, s.Root), t) {
		w.match(s.Root, t)
	} else {
		if s.Root != 0 {
			w.do(away(s.Root))
		}
		id := w.display.Next
		w.do(dom.Patch{What: 1, ID: id, Tag: t.Tag, Key: t.Key, Text: t.Text})
		w.fill(id, t)
		w.do(root(id))
	}
	if w.err != api.OK {
		return nil, dom.State{}, w.err
	}
	return w.patches, w.display, api.OK
}

// do does nothing behind a patch that was refused.
func (w *slow) do(p dom.Patch) {
	if w.err != api.OK {
		return
	}
	s, err := dom.Apply(w.display, p)
	if err != api.OK {
		w.err = err
		return
	}
	w.display, w.patches = s, append(w.patches, p)
}

func (w *slow) make(t api.Tree, parent, at int) int {
	id := w.display.Next
	w.do(dom.Patch{What: 1, ID: id, Tag: t.Tag, Key: t.Key, Text: t.Text})
	w.do(hang(id, parent, at))
	w.fill(id, t)
	return id
}

// fill is of one that is made: its attributes, and its kids.
func (w *slow) fill(id int, t api.Tree) {
	for _, a := range t.Attrs {
		w.do(set(id, a.Name, a.Value))
	}
	for at, kid := range t.Kids {
		w.make(kid, id, at)
	}
}

func (w *slow) match(id int, t api.Tree) {
	n := *node(w.display, id)
	if t.Tag == "" && n.Text != t.Text {
		w.do(reword(id, t.Text))
	}
	value := map[string]*string{}
	for _, a := range t.Attrs {
		value[a.Name] = &a.Value
	}
	for _, a := range n.Attrs {
		if value[a.Name] == nil {
			w.do(unset(id, a.Name))
		} else if *value[a.Name] == a.Value {
			delete(value, a.Name)
		}
	}
	for _, a := range t.Attrs {
		if value[a.Name] != nil {
			w.do(set(id, a.Name, a.Value))
		}
	}
	w.matchKids(id, t)
}

func (w *slow) matchKids(id int, t api.Tree) {
	old := node(w.display, id).Kids
	pairs := pairsOf(w.display, old, t.Kids)
	stay := staying(old, pairs)
	for _, kid := range old {
		if !slices.Contains(pairs, kid) {
			w.do(away(kid))
		}
	}
	ahead := 0
	for place, kid := range t.Kids {
		at := 0
		if place > 0 {
			others := slices.DeleteFunc(slices.Clone(node(w.display, id).Kids), func(other int) bool { return other == pairs[place] })
			at = slices.Index(others, ahead) + 1
		}
		ahead = pairs[place]
		if ahead == 0 {
			ahead = w.make(kid, id, at)
		} else if !slices.Contains(stay, ahead) {
			w.do(hang(ahead, id, at))
		}
	}
	for place, kid := range t.Kids {
		if pairs[place] != 0 && w.err == api.OK {
			w.match(pairs[place], kid)
		}
	}
}

// fits is by the chapter's words alone.
func fits(n dom.Node, t api.Tree) bool {
	bothTexts := n.Tag == "" && t.Tag == ""
	bothElements := n.Tag != "" && t.Tag != ""
	return bothTexts && n.Key == "" && t.Key == "" || bothElements && n.Tag == t.Tag && n.Key == t.Key
}

// pairsOf are the IDs of the kids' pairs by place, 0 for none.
func pairsOf(s dom.State, ids []int, kids []api.Tree) []int {
	pairs := make([]int, len(kids))
	for place, kid := range kids {
		for _, id := range ids {
			if pairs[place] == 0 && !slices.Contains(pairs, id) && fits(*node(s, id), kid) {
				pairs[place] = id
			}
		}
	}
	return pairs
}

// staying are the IDs of a longest part of old whose pairs' places rise; of all longest that which is the earliest in old, the first first.
func staying(old, pairs []int) []int {
	var places, ids []int
	for _, id := range old {
		if place := slices.Index(pairs, id); place >= 0 {
			places, ids = append(places, place), append(ids, id)
		}
	}
	var best []int
	from := make([][]int, len(ids))
	for at := len(ids) - 1; at >= 0; at-- {
		var behind []int
		for next := at + 1; next < len(ids); next++ {
			if places[next] > places[at] && len(from[next]) > len(behind) {
				behind = from[next]
			}
		}
		from[at] = append([]int{ids[at]}, behind...)
		if len(from[at]) >= len(best) {
			best = from[at]
		}
	}
	return best
}
