package view

import (
	"slices"

	"fanlight/api"
	"fanlight/expr"
)

const (
	maxParts = 64
	maxAttrs = 16
)

// checker has counted the parts that it met so far.
type checker struct {
	parts int
}

// part panics with the first fault, and so goes no further than the ninth level or the 65th part: it ends even where a template lies within itself.
func (c *checker) part(t Template, depth int) {
	c.parts++
	refuseIf(depth > api.MaxDepth, api.ErrDeep)
	refuseIf(c.parts > maxParts || len(t.Attrs) > maxAttrs || len(t.Kids) > api.MaxKids, api.ErrCount)
	refuseIf(!mayBe(t), api.ErrState)
	refuse(expr.Check(t.Key))
	refuse(expr.Check(t.Expr))
	for _, attr := range t.Attrs {
		refuse(expr.Check(attr.Expr))
	}
	for _, kid := range t.Kids {
		c.part(kid, depth+1)
	}
}

// mayBe asks nothing of the expressions that t uses, nor of its kids but whether it may have some.
func mayBe(t Template) bool {
	switch t.What {
	case element:
		return isName(t.Tag) && isNothing(t.Expr) && namesMayBe(t.Attrs)
	case written:
		return isNoElement(t) && len(t.Kids) == 0
	case kidsIf, kidsForEach:
		return isNoElement(t)
	}
	return false
}

// isNoElement answers whether t has nothing that only an element has.
func isNoElement(t Template) bool {
	return t.Tag == "" && isNothing(t.Key) && len(t.Attrs) == 0
}

func isNothing(e expr.Expr) bool {
	return e.Op == 0 && e.Bits == 0 && e.Text == "" && len(e.Args) == 0
}

func namesMayBe(attrs []Attr) bool {
	seen := map[string]struct{}{}
	for _, attr := range attrs {
		if _, was := seen[attr.Name]; was || !isName(attr.Name) {
			return false
		}
		seen[attr.Name] = struct{}{}
	}
	return true
}

func isName(s string) bool {
	other := func(octet byte) bool { return octet < 'a' || octet > 'z' }
	return 1 <= len(s) && len(s) <= api.MaxName && !slices.ContainsFunc([]byte(s), other)
}
