package view_test

import (
	"slices"
	"strconv"
	"testing"

	"fanlight/api"
	"fanlight/expr"
	"fanlight/view"
)

// TestRoot: of What 1, else ErrState, whatever else is wrong.
func TestRoot(t *testing.T) {
	for what := -3; what < 12; what++ {
		for _, x := range []view.Template{
			{What: what},
			{What: what, Tag: "p"},
			{What: what, Expr: yes()},
			{What: what, Kids: []view.Template{el("p")}},
			{What: what, Kids: manyKids(17)},
			{What: what, Tag: "p", Attrs: manyAttrs(17).Attrs},
			{What: what, Tag: "p", Key: ofSize(65), Expr: ofSize(65)},
			{What: what, Tag: "p", Kids: []view.Template{inside(8, el("p"))}},
		} {
			if what != whatElement {
				mustCheck(t, "a root of What "+strconv.Itoa(what), x, api.ErrState)
			}
		}
	}
	mustCheck(t, "an element", el("p"), api.OK)
	mustCheck(t, "an element without a Tag", el(""), api.ErrState)
	mustCheck(t, "no template", view.Template{}, api.ErrState)
	for _, what := range []int{whatText, whatIf, whatEach} {
		mustCheck(t, "a root within itself, of What "+strconv.Itoa(what), partWithinItself(what, 3), api.ErrState)
	}
}

// TestWhat: within the root only 1 to 4.
func TestWhat(t *testing.T) {
	for i, part := range parts() {
		mustCheckEverywhere(t, "a sound part of What "+strconv.Itoa(i+1), part, api.OK)
	}
	for _, what := range []int{-1 << 63, -4, -3, -2, -1, 0, 5, 6, 7, 8, 1<<63 - 1} {
		mustCheckEverywhere(t, "a part of What "+strconv.Itoa(what), view.Template{What: what}, api.ErrState)
		mustCheckEverywhere(t, "a part with an Expr of What "+strconv.Itoa(what), view.Template{What: what, Expr: yes()}, api.ErrState)
		mustCheckEverywhere(t, "a part with a Tag of What "+strconv.Itoa(what), view.Template{What: what, Tag: "p"}, api.ErrState)
	}
}

// inside is t within so many parts that it is the n-th of parts within each other; the root is an element, those within it are of each What that may have kids, by turns.
func inside(n int, t view.Template) view.Template {
	for i := range n - 1 {
		switch {
		case i == n-2 || i%3 == 0:
			t = el("p", t)
		case i%3 == 1:
			t = onlyIf(yes(), t)
		default:
			t = each(op(opList, none()), t)
		}
	}
	return t
}

func TestDeep(t *testing.T) {
	for i, part := range parts() {
		what := "a part of What " + strconv.Itoa(i+1) + " as the "
		for n := 2; n <= 8; n++ {
			mustCheck(t, what+strconv.Itoa(n)+"th", inside(n, part), api.OK)
		}
		for _, n := range []int{9, 10, 11, 20, 500} {
			mustCheck(t, what+strconv.Itoa(n)+"th", inside(n, part), api.ErrDeep)
			mustCheck(t, what+strconv.Itoa(n)+"th, others ahead", el("p", txt(none()), inside(8, txt(none())), onlyIf(no(), inside(n-2, part))), api.ErrDeep)
		}
	}
	for _, what := range []int{whatElement, whatIf, whatEach} {
		for _, n := range []int{1, 2, 16} {
			mustCheck(t, "a part within itself of What "+strconv.Itoa(what), el("p", partWithinItself(what, n)), api.ErrDeep)
		}
	}
	mustCheck(t, "a root within itself", partWithinItself(whatElement, 16), api.ErrDeep)
	mustCheck(t, "a root 17 times within itself", partWithinItself(whatElement, 17), api.ErrCount)
}

// manyKids are n parts, texts.
func manyKids(n int) []view.Template {
	return slices.Repeat([]view.Template{txt(none())}, n)
}

// manyParts is a template of n parts, itself counted, 3 deep: n is at most 1 + 16*17.
func manyParts(n int) view.Template {
	if n <= 17 {
		return el("p", manyKids(n-1)...)
	}
	t := el("p")
	for n--; n > 0; {
		inner := min(n, 17)
		t.Kids = append(t.Kids, manyParts(inner))
		n -= inner
	}
	return t
}

// lastOf is a template of n parts, more than 17, the last of which is x.
func lastOf(n int, x view.Template) view.Template {
	t := manyParts(n)
	last := &t
	for len(last.Kids) > 0 {
		last = &last.Kids[len(last.Kids)-1]
	}
	*last = x
	return t
}

func TestCount(t *testing.T) {
	for n := 1; n <= 64; n++ {
		mustCheck(t, strconv.Itoa(n)+" parts", manyParts(n), api.OK)
	}
	for _, n := range []int{65, 66, 80, 128, 256, 273} {
		mustCheck(t, strconv.Itoa(n)+" parts", manyParts(n), api.ErrCount)
	}
	for i, part := range parts() {
		mustCheck(t, "a 64th part of What "+strconv.Itoa(i+1), lastOf(64, part), api.OK)
		mustCheck(t, "a 65th part of What "+strconv.Itoa(i+1), lastOf(65, part), api.ErrCount)
	}
	mustCheck(t, "a 64th part that may not be", lastOf(64, view.Template{}), api.ErrState)
	mustCheck(t, "a 65th part that may not be", lastOf(65, view.Template{}), api.ErrCount)
	mustCheck(t, "a 64th part with an Expr that may not be", lastOf(64, txt(op(30))), api.ErrState)
	mustCheck(t, "a 64th part with an Expr too deep", lastOf(64, txt(exprWithinItself())), api.ErrDeep)
	mustCheck(t, "a 65th part with an Expr too deep", lastOf(65, txt(exprWithinItself())), api.ErrCount)
	mustCheck(t, "a 65th part with a Key too deep", lastOf(65, keyed("p", exprWithinItself())), api.ErrCount)
	mustCheck(t, "65 parts, and one behind them that is the ninth", lastOf(64, el("p", inside(8, el("p")))), api.ErrCount)
}

// manyAttrs is an element with n attributes, named aa and on, each of its own Name.
func manyAttrs(n int) view.Template {
	t := el("p")
	for i := range n {
		t.Attrs = append(t.Attrs, view.Attr{Name: string([]byte{'a' + byte(i/26), 'a' + byte(i%26)}), Expr: yes()})
	}
	return t
}

func TestTooManyAttrsAndKids(t *testing.T) {
	for n := range 17 {
		mustCheckEverywhere(t, strconv.Itoa(n)+" Attrs", manyAttrs(n), api.OK)
		for _, part := range []view.Template{el("p"), onlyIf(yes()), each(op(opList))} {
			part.Kids = manyKids(n)
			mustCheckEverywhere(t, strconv.Itoa(n)+" Kids", part, api.OK)
		}
	}
	for _, n := range []int{17, 18, 32, 63, 64, 65, 500} {
		for what := -1; what < 6; what++ {
			part := view.Template{What: what}
			if 1 <= what && what <= 4 {
				part = parts()[what-1]
			}
			part.Attrs = manyAttrs(n).Attrs
			mustCheckEverywhere(t, strconv.Itoa(n)+" Attrs of What "+strconv.Itoa(what), part, api.ErrCount)
			part.Kids = manyKids(n)
			mustCheckEverywhere(t, strconv.Itoa(n)+" Attrs and Kids of What "+strconv.Itoa(what), part, api.ErrCount)
			part.Attrs = nil
			mustCheckEverywhere(t, strconv.Itoa(n)+" Kids of What "+strconv.Itoa(what), part, api.ErrCount)
			part.Tag, part.Key, part.Expr = "?", ofSize(65), exprWithinItself()
			mustCheckEverywhere(t, strconv.Itoa(n)+" Kids of all that may not be", part, api.ErrCount)
		}
	}
	both := manyAttrs(16)
	both.Kids = manyKids(16)
	mustCheck(t, "16 Attrs and 16 Kids", both, api.OK)
}

// names are texts, each with what Check is to tell of a Tag or a Name that is one.
func names() map[string]api.Errno {
	all := map[string]api.Errno{"": api.ErrState}
	for n := 1; n < 40; n++ {
		want := api.OK
		if n > 16 {
			want = api.ErrState
		}
		for _, octet := range []string{"a", "m", "z"} {
			all[repeat(octet, n)] = want
		}
	}
	for octet := range 256 {
		want := api.ErrState
		if 'a' <= octet && octet <= 'z' {
			want = api.OK
		}
		s := string([]byte{byte(octet)})
		all[s], all["x"+s], all[s+"x"], all["abc"+s+"def"], all[repeat("y", 15)+s] = want, want, want, want, want
	}
	for _, s := range []string{"é", "ß", "div ", "h1", "DIV", "a-b", "key=", repeat("é", 8)} {
		all[s] = api.ErrState
	}
	return all
}

func TestTagsAndNames(t *testing.T) {
	for s, want := range names() {
		what := " " + strconv.QuoteToASCII(s)
		mustCheckEverywhere(t, "the Tag"+what, el(s), want)
		for at := range 3 {
			x := with("p", "uuu vvv www", yes(), no(), none())
			x.Attrs[at].Name = s
			mustCheckEverywhere(t, "the Name"+what, x, want)
		}
	}
}

// TestTwice: two Attrs of one Name, wherever they stand.
func TestTwice(t *testing.T) {
	for first := range 16 {
		for second := range 16 {
			x := manyAttrs(16)
			x.Attrs[second].Name = x.Attrs[first].Name
			want := api.ErrState
			if first == second {
				want = api.OK
			}
			mustCheck(t, "one Name at "+strconv.Itoa(first)+" and "+strconv.Itoa(second), x, want)
			mustCheck(t, "one Name of a kid at "+strconv.Itoa(first)+" and "+strconv.Itoa(second), el("p", txt(none()), x), want)
			x.Attrs[second].Name += "x"
			mustCheck(t, "a Name that begins another", x, api.OK)
		}
	}
	mustCheckEverywhere(t, "one Name thrice", with("p", "a a a", yes(), yes(), yes()), api.ErrState)
	mustCheckEverywhere(t, "one Name with two Exprs", with("p", "a b a", yes(), no(), no()), api.ErrState)
	mustCheckEverywhere(t, "two long Names", with("p", repeat("a", 16)+" "+repeat("a", 15)+"b", yes(), no()), api.OK)
	mustCheckEverywhere(t, "one long Name", with("p", repeat("a", 16)+" "+repeat("a", 16), yes(), no()), api.ErrState)
	mustCheckEverywhere(t, "the Names of a Tag and of a key", with("p", "p key", yes(), no()), api.OK)
	one := with("p", "a b", yes(), no())
	one.Kids = []view.Template{with("p", "b a", yes(), no()), with("p", "a", yes())}
	mustCheck(t, "one Name in parts that are not one", one, api.OK)
}

// notNothing are expressions, most of which may be, that are not op 0 without anything.
func notNothing() []expr.Expr {
	all := []expr.Expr{yes(), no(), num(0), str(""), str("x"), state(), item(), op(opList), get("k"), op(opNot, yes())}
	for _, bad := range faultyExprsAndLoop() {
		all = append(all, bad.e)
	}
	return all
}

// TestWhatIsNotUsed: each field that a What does not use is zero.
func TestWhatIsNotUsed(t *testing.T) {
	for i, sound := range parts() {
		what := i + 1
		for _, e := range notNothing() {
			x := sound
			if what == whatElement {
				x.Expr = e
			} else {
				x.Key = e
			}
			mustCheckEverywhere(t, "an expression "+tellExpr(e)+" that is not used, of What "+strconv.Itoa(what), x, api.ErrState)
		}
		if what == whatElement {
			continue
		}
		for _, tag := range []string{"p", "P", " ", repeat("p", 17)} {
			x := sound
			x.Tag = tag
			mustCheckEverywhere(t, "a Tag that is not used, of What "+strconv.Itoa(what), x, api.ErrState)
		}
		for _, n := range []int{1, 2, 16} {
			x := sound
			x.Attrs = manyAttrs(n).Attrs
			mustCheckEverywhere(t, "Attrs that are not used, of What "+strconv.Itoa(what), x, api.ErrState)
		}
		x := sound
		x.Attrs = make([]view.Attr, 1)
		mustCheckEverywhere(t, "an empty Attr that is not used, of What "+strconv.Itoa(what), x, api.ErrState)
	}
	for n := 1; n <= 16; n++ {
		x := txt(str("x"))
		x.Kids = manyKids(n)
		mustCheckEverywhere(t, "Kids of a text", x, api.ErrState)
		x.Kids = make([]view.Template, n)
		mustCheckEverywhere(t, "empty Kids of a text", x, api.ErrState)
	}
	mustCheckEverywhere(t, "a text with an element's Kid", view.Template{What: whatText, Kids: []view.Template{el("p")}}, api.ErrState)
}

// TestWhatIsNotUsedIsToldFirst: ahead of the errors of what is used.
func TestWhatIsNotUsedIsToldFirst(t *testing.T) {
	for _, bad := range faultyExprsAndLoop() {
		unused := append(notNothing(), expr.Expr{Bits: 1}, expr.Expr{Text: "x"}, op(opNothing, none()), op(opNothing, bad.e))
		for _, e := range unused {
			x := with("p", "a", bad.e)
			x.Expr = e
			mustCheck(t, "an attribute that may not be, and "+tellExpr(e)+" that is not used", x, api.ErrState)
			x.Key = bad.e
			mustCheck(t, "a Key that may not be, and "+tellExpr(e)+" that is not used", x, api.ErrState)
			for _, part := range []view.Template{txt(bad.e), onlyIf(bad.e), each(bad.e)} {
				part.Key = e
				mustCheckEverywhere(t, "an Expr that may not be, and "+tellExpr(e)+" that is not used", part, api.ErrState)
			}
		}
		for _, tag := range []string{"", "P", repeat("p", 17)} {
			mustCheckEverywhere(t, "a Key that may not be, and a Tag", keyed(tag, bad.e), api.ErrState)
		}
		x := with("p", "a a", bad.e, bad.e)
		x.Key = bad.e
		mustCheckEverywhere(t, "a Key and attributes that may not be, and one Name", x, api.ErrState)
		x.Attrs[1].Name = "b"
		mustCheckEverywhere(t, "a Key and attributes that may not be", x, bad.err)
	}
}

// TestWhatIsUsed: of each What all that it may have.
func TestWhatIsUsed(t *testing.T) {
	all := manyAttrs(16)
	all.Key, all.Kids = str("k"), parts()
	mustCheckEverywhere(t, "an element with all", all, api.OK)
	for _, e := range []expr.Expr{none(), yes(), num(1), str("x"), state(), event(), item(), get("k"), op(opList), ofSize(64), op(opDiv, num(1), num(0)), op(opNot, num(1))} {
		mustCheckEverywhere(t, "a Key", keyed("p", e), api.OK)
		mustCheckEverywhere(t, "an attribute", with("p", "a b", e, e), api.OK)
		mustCheckEverywhere(t, "a text", txt(e), api.OK)
		mustCheckEverywhere(t, "kids if", onlyIf(e, parts()...), api.OK)
		mustCheckEverywhere(t, "kids for each", each(e, parts()...), api.OK)
	}
}

// TestExpressions: expr.Check's error, wherever an expression is used.
func TestExpressions(t *testing.T) {
	for _, bad := range faultyExprsAndLoop() {
		mustCheckEverywhere(t, "a Key that may not be", keyed("p", bad.e), bad.err)
		for at := range 16 {
			x := manyAttrs(16)
			x.Attrs[at].Expr = bad.e
			mustCheck(t, "an attribute's Expr that may not be", x, bad.err)
			mustCheck(t, "a kid's attribute's Expr that may not be", el("p", x, txt(none())), bad.err)
		}
		mustCheckEverywhere(t, "a text's Expr that may not be", txt(bad.e), bad.err)
		mustCheckEverywhere(t, "kids if an Expr that may not be", onlyIf(bad.e, parts()...), bad.err)
		mustCheckEverywhere(t, "kids for each of an Expr that may not be", each(bad.e, parts()...), bad.err)
	}
	for _, f := range failings() {
		mustCheckEverywhere(t, "an expression that only fails when it is reckoned", keyed("p", f.e, txt(f.e), onlyIf(f.e), each(f.e)), api.OK)
	}
}

// fault is one thing that may be wrong with a template, and its error.
type fault struct {
	name string
	err  api.Errno
	make func(x *view.Template)
}

// sound is a template of elements and other parts, in which nothing is wrong; each of its parts can be given faults that do not undo one another.
func sound() view.Template {
	attrs := func(kids ...view.Template) view.Template {
		x := with("p", "a b c", yes(), no(), none())
		x.Key, x.Kids = str("k"), kids
		return x
	}
	return attrs(attrs(txt(none()), attrs()), onlyIf(yes(), txt(none()), each(op(opList), attrs())), txt(no()))
}

// at answers the part of x at a path of places.
func at(x *view.Template, path []int) *view.Template {
	for _, i := range path {
		x = &x.Kids[i]
	}
	return x
}

// pathsOf are the paths to all parts of x, which stands at that one, each ahead of its kids.
func pathsOf(x view.Template, path []int) [][]int {
	all := [][]int{path}
	for i, kid := range x.Kids {
		all = append(all, pathsOf(kid, append(slices.Clone(path), i))...)
	}
	return all
}

// faultsInOrder are all that may be wrong with the template of sound, in the order in which it is told; bad is what stands for an expression that may not be.
func faultsInOrder(bad failing) []fault {
	all := []fault{{"a root that is none", api.ErrState, func(x *view.Template) { x.What = 5 }}}
	for _, path := range pathsOf(sound(), nil) {
		part := sound()
		isElement := at(&part, path).What == whatElement
		name := " at"
		for _, i := range path {
			name += " " + strconv.Itoa(i)
		}
		add := func(what string, err api.Errno, make func(x *view.Template)) {
			all = append(all, fault{what + name, err, func(x *view.Template) { make(at(x, path)) }})
		}
		add("17 Attrs", api.ErrCount, func(x *view.Template) { x.Attrs = append(x.Attrs, manyAttrs(17).Attrs...) })
		add("17 Kids", api.ErrCount, func(x *view.Template) { x.Kids = append(x.Kids, manyKids(17)...) })
		add("a Tag", api.ErrState, func(x *view.Template) { x.Tag = "P" })
		if isElement {
			add("one Name", api.ErrState, func(x *view.Template) { x.Attrs[2].Name = x.Attrs[0].Name })
			add("an Expr that is not used", api.ErrState, func(x *view.Template) { x.Expr = yes() })
			add("Key", bad.err, func(x *view.Template) { x.Key = bad.e })
			for i := range 3 {
				add("Attr "+strconv.Itoa(i), bad.err, func(x *view.Template) { x.Attrs[i].Expr = bad.e })
			}
		} else {
			add("a Key that is not used", api.ErrState, func(x *view.Template) { x.Key = yes() })
			add("Expr", bad.err, func(x *view.Template) { x.Expr = bad.e })
		}
	}
	return all
}

// TestWhichFaultIsToldFirst: of any two, and of all from one on.
func TestWhichFaultIsToldFirst(t *testing.T) {
	mustCheck(t, "the sound template", sound(), api.OK)
	for _, bad := range []failing{faultyExprs()[10], faultyExprs()[11], {e: exprWithinItself(), err: api.ErrDeep}} {
		all := faultsInOrder(bad)
		for i, first := range all {
			whole := sound()
			for _, second := range all[i:] {
				x := sound()
				second.make(&x)
				first.make(&x)
				mustTellFirst(t, first.name+" and "+second.name, x, first.err)
				second.make(&whole)
			}
			first.make(&whole)
			mustTellFirst(t, first.name+" and all behind it", whole, first.err)
		}
	}
}

func mustTellFirst(t *testing.T, what string, x view.Template, want api.Errno) {
	t.Helper()
	if err := view.Check(x); err != want {
		t.Errorf("P17.1, P4: Check with %s: %v, want %v", what, err, want)
	}
	mustRefuse(t, "a template with "+what, x, api.Value{Kind: 6}, -1, want)
}

// TestDeepAndCountAmongOthers: where a part has several faults, and those ahead of it, around it or within it have some.
func TestDeepAndCountAmongOthers(t *testing.T) {
	worst := view.Template{What: 9, Tag: "?", Key: ofSize(65), Expr: op(30), Attrs: manyAttrs(17).Attrs, Kids: manyKids(17)}
	mustCheck(t, "a ninth part with every fault", inside(9, worst), api.ErrDeep)
	mustCheck(t, "an eighth part with every fault", inside(8, worst), api.ErrCount)
	worst.Attrs, worst.Kids = manyAttrs(16).Attrs, []view.Template{inside(8, el("p"))}
	mustCheck(t, "an eighth part that may not be, with kids too deep", inside(8, worst), api.ErrState)
	worst.What, worst.Tag, worst.Expr = whatElement, "p", none()
	mustCheck(t, "an eighth part with a Key of too many parts, with kids too deep", inside(8, worst), api.ErrCount)
	worst.Key = none()
	mustCheck(t, "an eighth part with kids too deep", inside(8, worst), api.ErrDeep)
	worst.Attrs[15].Expr = op(30)
	mustCheck(t, "an eighth part with an attribute that may not be, with kids too deep", inside(8, worst), api.ErrState)

	full := manyParts(64)
	full.Kids[0].Kids[0] = el("q", inside(7, el("p")))
	mustCheck(t, "a ninth part ahead of the 65th", full, api.ErrDeep)
	full = lastOf(57, inside(7, el("p")))
	mustCheck(t, "a ninth part that is the 63rd", full, api.ErrDeep)
	full = lastOf(59, inside(7, el("p")))
	mustCheck(t, "a ninth part that is the 65th", full, api.ErrDeep)
	full = lastOf(60, inside(7, el("p")))
	mustCheck(t, "a 65th part that is the eighth, a ninth within it", full, api.ErrCount)
	mustCheck(t, "a part that may not be ahead of 65", el("p", append([]view.Template{{}}, manyParts(70).Kids...)...), api.ErrState)
	mustCheck(t, "a part that may not be behind 65", el("p", append(manyParts(70).Kids, view.Template{})...), api.ErrCount)
	mustCheck(t, "a part too deep behind one that may not be", el("p", txt(op(30)), inside(9, el("p"))), api.ErrState)
	mustCheck(t, "a part too deep ahead of one that may not be", el("p", inside(9, el("p")), txt(op(30))), api.ErrDeep)
	mustCheck(t, "17 kids, the first with every fault", el("p", slices.Repeat([]view.Template{inside(9, worst)}, 17)...), api.ErrCount)
}
