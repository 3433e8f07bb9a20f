package hydrate_test

import (
	"slices"

	"fanlight/api"
	"fanlight/diff"
	"fanlight/dom"
)

// answer is what the calls have to answer of a display and a tree.
type answer struct {
	loose   []int
	patches []dom.Patch
	behind  dom.State
	kept    []int
}

// slowly takes a display and a tree that may be, and works by the chapter's words: what is taken away is found from below, by going up from each node, and every patch is done by itself.
func slowly(s dom.State, t api.Tree) (answer, api.Errno) {
	a := answer{behind: s}
	for _, n := range s.Nodes {
		if n.Parent == 0 && n.ID != s.Root {
			a.loose = append(a.loose, n.ID)
			a.patches = append(a.patches, away(n.ID))
		}
	}
	rest := clone(s)
	rest.Nodes = slices.DeleteFunc(rest.Nodes, func(n dom.Node) bool { return top(s, n) != s.Root })
	if slices.ContainsFunc(rest.Nodes, func(n dom.Node) bool { return depth(s, n) > deepest }) {
		a.patches = append(a.patches, away(s.Root))
		rest = display(0, s.Next)
	}
	l, err := diff.Diff(rest, t)
	if err != api.OK {
		return answer{}, err
	}
	a.patches = append(a.patches, l...)
	for _, p := range a.patches {
		if a.behind, err = dom.Apply(a.behind, p); err != api.OK {
			return answer{}, err
		}
	}
	for _, n := range s.Nodes {
		if node(a.behind, n.ID) != nil {
			a.kept = append(a.kept, n.ID)
		}
	}
	return a, api.OK
}

// top is the ID of the node without a Parent in which n is.
func top(s dom.State, n dom.Node) int {
	for n.Parent != 0 {
		n = *node(s, n.Parent)
	}
	return n.ID
}

// depth is how many nodes there are from the top to n.
func depth(s dom.State, n dom.Node) int {
	d := 1
	for n.Parent != 0 {
		n = *node(s, n.Parent)
		d++
	}
	return d
}

// paired are the IDs of the nodes that have a pair in t, from the root on, if the root's tree is not too deep; rising.
func paired(s dom.State, t api.Tree) []int {
	if s.Root == 0 || !diff.Fits(*node(s, s.Root), t) {
		return nil
	}
	for _, n := range s.Nodes {
		if top(s, n) == s.Root && depth(s, n) > deepest {
			return nil
		}
	}
	var ids []int
	var walk func(id int, t api.Tree)
	walk = func(id int, t api.Tree) {
		ids = append(ids, id)
		kids := slices.Clone(node(s, id).Kids)
		for _, kid := range t.Kids {
			at := slices.IndexFunc(kids, func(id int) bool { return diff.Fits(*node(s, id), kid) })
			if at >= 0 {
				walk(kids[at], kid)
				kids = slices.Delete(kids, at, at+1)
			}
		}
	}
	walk(s.Root, t)
	slices.Sort(ids)
	return ids
}
