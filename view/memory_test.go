package view_test

import (
	"slices"
	"strings"
	"sync"
	"testing"
	"unsafe"

	"fanlight/api"
	"fanlight/expr"
	"fanlight/tree"
	"fanlight/view"
)

// span is memory, from its first octet to behind its last.
type span struct {
	from, to uintptr
}

func spanOf[T any](l []T) []span {
	if cap(l) == 0 {
		return nil
	}
	var one T
	from := uintptr(unsafe.Pointer(unsafe.SliceData(l)))
	return []span{{from, from + uintptr(cap(l))*unsafe.Sizeof(one)}}
}

// spans are the memory of all lists within v, of each to its whole capacity.
func spans(v api.Value) []span {
	all := append(spanOf(v.Keys), spanOf(v.Items)...)
	for _, item := range v.Items {
		all = append(all, spans(item)...)
	}
	return all
}

func spansOfTree(x api.Tree) []span {
	all := append(spanOf(x.Attrs), spanOf(x.Kids)...)
	for _, kid := range x.Kids {
		all = append(all, spansOfTree(kid)...)
	}
	return all
}

func spansOfExpr(e expr.Expr) []span {
	all := spanOf(e.Args)
	for _, arg := range e.Args {
		all = append(all, spansOfExpr(arg)...)
	}
	return all
}

func spansOfTemplate(x view.Template) []span {
	all := append(spanOf(x.Attrs), spanOf(x.Kids)...)
	all = append(all, append(spansOfExpr(x.Key), spansOfExpr(x.Expr)...)...)
	for _, a := range x.Attrs {
		all = append(all, spansOfExpr(a.Expr)...)
	}
	for _, kid := range x.Kids {
		all = append(all, spansOfTemplate(kid)...)
	}
	return all
}

// share tells whether two of the spans lie in one memory.
func share(lists ...[]span) bool {
	all := slices.Concat(lists...)
	slices.SortFunc(all, func(a, b span) int { return int(a.from) - int(b.from) })
	for i := 1; i < len(all); i++ {
		if all[i].from < all[i-1].to {
			return true
		}
	}
	return false
}

// roomy is v with room behind the last of each list, into which a careless call could write.
func roomy(v api.Value) api.Value {
	v.Keys = append(make([]string, 0, len(v.Keys)+3), v.Keys...)
	items := make([]api.Value, 0, len(v.Items)+3)
	for _, item := range v.Items {
		items = append(items, roomy(item))
	}
	v.Items = items
	return v
}

func roomyExpr(e expr.Expr) expr.Expr {
	args := make([]expr.Expr, 0, len(e.Args)+2)
	for _, arg := range e.Args {
		args = append(args, roomyExpr(arg))
	}
	e.Args = args
	return e
}

func roomyTemplate(x view.Template) view.Template {
	x.Key, x.Expr = roomyExpr(x.Key), roomyExpr(x.Expr)
	attrs, kids := make([]view.Attr, 0, len(x.Attrs)+2), make([]view.Template, 0, len(x.Kids)+2)
	for _, a := range x.Attrs {
		attrs = append(attrs, view.Attr{Name: a.Name, Expr: roomyExpr(a.Expr)})
	}
	for _, kid := range x.Kids {
		kids = append(kids, roomyTemplate(kid))
	}
	x.Attrs, x.Kids = attrs, kids
	return x
}

// behind tells v and what lies behind the last of its lists.
func behind(v api.Value) string {
	v.Keys = v.Keys[:cap(v.Keys)]
	v.Items = slices.Clone(v.Items[:cap(v.Items)])
	s := ""
	for _, item := range v.Items {
		s += behind(item)
	}
	return tell(v) + s
}

func behindExpr(e expr.Expr) string {
	s := tellExpr(expr.Expr{Op: e.Op, Bits: e.Bits, Text: e.Text})
	for _, arg := range e.Args[:cap(e.Args)] {
		s += behindExpr(arg)
	}
	return s
}

func behindTemplate(x view.Template) string {
	var s strings.Builder
	s.WriteString(tellTemplate(view.Template{What: x.What, Tag: x.Tag}) + behindExpr(x.Key) + behindExpr(x.Expr))
	for _, a := range x.Attrs[:cap(x.Attrs)] {
		s.WriteString(" " + a.Name + "=" + behindExpr(a.Expr))
	}
	for _, kid := range x.Kids[:cap(x.Kids)] {
		s.WriteString(" " + behindTemplate(kid))
	}
	return s.String()
}

// spoilValue changes all that v has.
func spoilValue(v *api.Value) {
	for i := range v.Items {
		spoilValue(&v.Items[i])
	}
	for i := range v.Keys {
		v.Keys[i] = "changed"
	}
	v.Kind, v.Bits, v.Text = -1, 7, "changed"
}

func spoilTree(x *api.Tree) {
	for i := range x.Attrs {
		x.Attrs[i] = api.Attr{Name: "changed", Value: "changed"}
	}
	for i := range x.Kids {
		spoilTree(&x.Kids[i])
	}
	x.Tag, x.Key, x.Text = "changed", "changed", "changed"
}

// mustShareNothing renders twice and holds that neither tree shares a list with itself, with the other or with what was handed in, and that this has stayed.
func mustShareNothing(t *testing.T, x view.Template, v api.Value) {
	t.Helper()
	x, v = roomyTemplate(x), roomy(v)
	was := behindTemplate(x) + behind(v)
	a, _ := view.Render(x, v, api.MaxFuel)
	b, _ := view.Render(x, v, api.MaxFuel)
	view.Check(x)
	view.Word(v)
	if share(spansOfTree(a), spansOfTree(b), spans(v), spansOfTemplate(x)) {
		t.Fatalf("P17.5: Render(%s; %s) shares memory", tellTemplate(x), tell(v))
	}
	told := tellTree(a)
	spoilTree(&a)
	if behindTemplate(x)+behind(v) != was {
		t.Fatalf("P17.5: Render(%s; %s), or a change of its tree, has changed what was handed in", tellTemplate(x), tell(v))
	}
	spoilValue(&v)
	if tellTree(b) != told {
		t.Fatalf("P17.5: Render(%s): a change of the state, or of another tree, has changed the tree", tellTemplate(x))
	}
	if c, _ := view.Render(x, nothing(), api.MaxFuel); share(spansOfTree(b), spansOfTree(c)) || tellTree(b) != told {
		t.Fatalf("P17.5: Render(%s) keeps what it told", tellTemplate(x))
	}
}

func TestNothingIsShared(t *testing.T) {
	some := manyAttrs(16)
	some.Kids = []view.Template{txt(str("a")), el("i", txt(str("b"))), keyed("q", yes(), el("b", el("b")))}
	for _, x := range []view.Template{
		el("p"), some, el("p", some, some, some),
		el("p", onlyIf(yes(), some, some), onlyIf(no(), some), onlyIf(yes(), onlyIf(yes(), some))),
		el("p", each(numbersOf(4), some)), el("p", each(numbersOf(2), each(numbersOf(2), some), some)),
		el("p", each(state(), txt(item()), el("i", txt(item())))),
		el("p", each(numbersOf(1), el("q"), txt(none()), with("p", "z a", item(), item()))),
	} {
		for _, v := range []api.Value{texts("a b c"), list(), numbers(8), record("a b", texts("a b"), list(record("c", list(nothing()))))} {
			mustShareNothing(t, x, v)
		}
	}
}

func TestNothingIsSharedByChance(t *testing.T) {
	m := makerOf(175)
	for range 1500 {
		mustShareNothing(t, m.template(), m.state())
	}
}

// TestRefusingChangesNothing: what is refused stays.
func TestRefusingChangesNothing(t *testing.T) {
	for _, bad := range faultyValues() {
		v := roomy(bad.v)
		was := behind(v)
		view.Word(v)
		view.Render(el("p", txt(state())), v, 99)
		if behind(v) != was {
			t.Errorf("P17.5: refusing has changed %s to %s", was, behind(v))
		}
	}
	m := makerOf(1751)
	for range 1000 {
		mustShareNothing(t, m.spoilt(m.template()), m.state())
	}
}

// bare is x with nil lists in the place of empty ones: roomyTemplate has none that is nil.
func bare(x view.Template) view.Template {
	x.Key, x.Expr = bareExpr(x.Key), bareExpr(x.Expr)
	var attrs []view.Attr
	for _, a := range x.Attrs {
		attrs = append(attrs, view.Attr{Name: a.Name, Expr: bareExpr(a.Expr)})
	}
	var kids []view.Template
	for _, kid := range x.Kids {
		kids = append(kids, bare(kid))
	}
	x.Attrs, x.Kids = attrs, kids
	return x
}

func bareExpr(e expr.Expr) expr.Expr {
	var args []expr.Expr
	for _, arg := range e.Args {
		args = append(args, bareExpr(arg))
	}
	e.Args = args
	return e
}

// nils counts the lists within x that are nil.
func nils(x api.Tree) int {
	n := 0
	if x.Attrs == nil {
		n++
	}
	if x.Kids == nil {
		n++
	}
	for _, kid := range x.Kids {
		n += nils(kid)
	}
	return n
}

// TestNilAndEmptyAreOne: P1: an answer does not hang on how an empty list was handed in.
func TestNilAndEmptyAreOne(t *testing.T) {
	m := makerOf(1752)
	for range 1000 {
		x, v := m.template(), m.state()
		if m.oneIn(3) {
			x = m.spoilt(x)
		}
		a, err := view.Render(roomyTemplate(x), roomy(v), api.MaxFuel)
		b, berr := view.Render(bare(x), v, api.MaxFuel)
		if tellTree(a) != tellTree(b) || err != berr || nils(a) != nils(b) || view.Check(roomyTemplate(x)) != view.Check(bare(x)) {
			t.Fatalf("P1: Render(%s) tells nil and empty lists apart: %s, %v and %s, %v", tellTemplate(x), tellTree(a), err, tellTree(b), berr)
		}
	}
	for kind := range kindRecord + 1 {
		s, err := view.Word(api.Value{Kind: kind, Keys: []string{}, Items: []api.Value{}})
		z, zerr := view.Word(api.Value{Kind: kind})
		if s != z || err != zerr {
			t.Errorf("P1: Word of kind %d tells nil and empty lists apart: %q, %v and %q, %v", kind, s, err, z, zerr)
		}
	}
	for i, part := range parts() {
		if err := view.Check(el("p", roomyTemplate(part))); err != api.OK {
			t.Errorf("P1: Check of a part of What %d with empty lists: %v", i+1, err)
		}
	}
}

// TestRenderHangsOnTheStateAlone: what is told hangs on the arguments alone, not on calls ahead nor on those at the same time, nor on where the state lies.
func TestRenderHangsOnTheStateAlone(t *testing.T) {
	m := makerOf(174)
	type call struct {
		x    view.Template
		v    api.Value
		fuel int
		want string
		err  api.Errno
	}
	var calls []call
	for range 500 {
		c := call{x: m.template(), v: m.state(), fuel: []int{api.MaxFuel, m.Intn(30)}[m.Intn(2)]}
		made, err := view.Render(c.x, c.v, c.fuel)
		c.want, c.err = tellTree(made), err
		calls = append(calls, c)
	}
	var all sync.WaitGroup
	for n := range 4 {
		all.Go(func() {
			for i := range calls {
				c := calls[(i*(n+1)*7+n)%len(calls)]
				made, err := view.Render(c.x, c.v, c.fuel)
				copied, cerr := view.Render(roomyTemplate(c.x), roomy(c.v), c.fuel)
				if tellTree(made) != c.want || err != c.err || tellTree(copied) != c.want || cerr != c.err {
					t.Errorf("P17.4, P3: Render(%s) is not the same each time", tellTemplate(c.x))
				}
			}
		})
	}
	all.Wait()
}

// TestWhatIsToldIsOfThisStateAlone: of two states, and of the first again.
func TestWhatIsToldIsOfThisStateAlone(t *testing.T) {
	x := el("ul", each(get("l"), keyed("li", item(), txt(item()))))
	first, _ := view.Render(x, record("l", texts("a b")), 99)
	second, _ := view.Render(x, record("l", texts("c")), 99)
	view.Render(x, record("l", texts("a a")), 99)
	view.Render(x, record("l", texts("d e f")), 3)
	again, _ := view.Render(x, record("l", texts("a b")), 99)
	if !tree.Same(first, again) || tree.Same(first, second) || share(spansOfTree(first), spansOfTree(second), spansOfTree(again)) {
		t.Errorf("P17.4: Render: %s, %s, %s", tellTree(first), tellTree(second), tellTree(again))
	}
}
