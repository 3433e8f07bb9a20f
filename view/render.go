package view

import (
	"slices"
	"strings"

	"fanlight/api"
	"fanlight/eval"
	"fanlight/expr"
)

// renderer is what a template's expressions read, and the fuel that is left for all of them. It takes parts that may be, and panics with the first refusal.
type renderer struct {
	eval.Scope
	fuel int
}

func (r *renderer) element(t Template) api.Tree {
	made := api.Tree{Tag: t.Tag, Key: r.word(t.Key)}
	refuseIf(len(made.Key) > api.MaxName, api.ErrLong)
	made.Attrs = r.attrs(t.Attrs)
	made.Kids = r.all(t.Kids)
	return made
}

// attrs reckons in the template's order, and only then puts the Names in theirs.
func (r *renderer) attrs(of []Attr) []api.Attr {
	var made []api.Attr
	for _, attr := range of {
		made = append(made, api.Attr{Name: attr.Name, Value: r.word(attr.Expr)})
	}
	slices.SortFunc(made, func(a, b api.Attr) int { return strings.Compare(a.Name, b.Name) })
	return made
}

// all answers the nodes that the parts make, in order.
func (r *renderer) all(parts []Template) []api.Tree {
	var made []api.Tree
	for _, part := range parts {
		made = append(made, r.nodes(part)...)
	}
	return made
}

func (r *renderer) nodes(t Template) []api.Tree {
	switch t.What {
	case element:
		return []api.Tree{r.element(t)}
	case written:
		return []api.Tree{{Text: r.word(t.Expr)}}
	case kidsIf:
		return r.kidsIf(t)
	}
	return r.kidsForEach(t)
}

func (r *renderer) kidsIf(t Template) []api.Tree {
	is, err := eval.True(r.reckon(t.Expr))
	refuse(err)
	if !is {
		return nil
	}
	return r.all(t.Kids)
}

// kidsForEach leaves the Item of the part around it as it was.
func (r *renderer) kidsForEach(t Template) []api.Tree {
	of := r.reckon(t.Expr)
	refuseIf(of.Kind != list, api.ErrType)
	outer := r.Item
	var made []api.Tree
	for _, item := range of.Items {
		r.Item = item
		made = append(made, r.all(t.Kids)...)
	}
	r.Item = outer
	return made
}

func (r *renderer) word(e expr.Expr) string {
	told, err := Word(r.reckon(e))
	refuse(err)
	return told
}

func (r *renderer) reckon(e expr.Expr) api.Value {
	told, left, err := eval.Eval(e, r.Scope, r.fuel)
	refuse(err)
	r.fuel = left
	return told
}
