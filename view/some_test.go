package view_test

import (
	"math/rand"
	"strconv"

	"fanlight/api"
	"fanlight/expr"
	"fanlight/view"
)

// What an Item of the tests is, by chance.
const (
	itemNone = iota
	itemWord
	itemRow
	itemList
)

// maker makes states and templates by a fixed rule; room is how many parts a template may still have.
type maker struct {
	*rand.Rand
	room int
}

func makerOf(seed int64) *maker {
	return &maker{Rand: rand.New(rand.NewSource(seed))}
}

func (m *maker) oneIn(n int) bool {
	return m.Intn(n) == 0
}

// state is a record: b a truth, l a list of words, n a number, r a list of rows, t a text, z nothing.
func (m *maker) state() api.Value {
	if m.oneIn(40) {
		kinds := ofEachKind()
		of := kinds[m.Intn(len(kinds))]
		return of[m.Intn(len(of))]
	}
	rows := list()
	for range m.Intn(4) {
		rows.Items = append(rows.Items, record("b k l", truth(m.oneIn(2)), m.word(), m.words()))
	}
	return record("b l n r t z", truth(m.oneIn(2)), m.words(), number(float64(m.Intn(30)-5)), rows, text(m.text()), nothing())
}

func (m *maker) words() api.Value {
	l := list()
	for range []int{0, 1, 2, 3, 4, 9}[m.Intn(6)] {
		l.Items = append(l.Items, m.word())
	}
	return l
}

// word is a value that mostly has one.
func (m *maker) word() api.Value {
	switch m.Intn(12) {
	case 0:
		return nothing()
	case 1:
		return truth(m.oneIn(2))
	case 2, 3:
		return number(float64(m.Intn(2000) - 1000))
	case 4:
		if m.oneIn(8) {
			return number(0.5)
		}
		return number(1 << 53)
	case 5:
		if m.oneIn(8) {
			return list()
		}
	}
	return text(m.text())
}

func (m *maker) text() string {
	if m.oneIn(12) {
		return repeat("x", []int{15, 16, 17, 64, 127, 128}[m.Intn(6)])
	}
	return []string{"", "a", "b", "c", "<", "&x", "\xff", "true", "12"}[m.Intn(9)] + strconv.Itoa(m.Intn(30))
}

// wordExpr mostly has a word.
func (m *maker) wordExpr(item int) expr.Expr {
	if m.oneIn(150) {
		return failings()[m.Intn(5)].e
	}
	if m.oneIn(150) {
		return op(opList)
	}
	if item == itemWord && m.oneIn(2) {
		return op(opItem)
	}
	if item == itemRow && m.oneIn(2) {
		return of(op(opItem), "k")
	}
	switch m.Intn(10) {
	case 0:
		return none()
	case 1:
		return num(float64(m.Intn(9) - 4))
	case 2:
		return get([]string{"b", "n", "t", "z"}[m.Intn(4)])
	case 3:
		return join(str(m.text()), get("t"))
	case 4:
		return op(opLen, get("l"))
	case 5:
		return op(opIf, m.truthExpr(item), m.wordExpr(item), str("no"))
	case 6:
		return op(opSame, op(opItem), op(opEvent))
	}
	return str(m.text())
}

func (m *maker) truthExpr(item int) expr.Expr {
	if m.oneIn(150) {
		return num(1)
	}
	if item == itemRow && m.oneIn(2) {
		return of(op(opItem), "b")
	}
	return []expr.Expr{yes(), no(), get("b"), op(opNot, get("b")), op(opSame, op(opItem), op(opEvent)), op(opSame, get("n"), num(3)), op(opNot, op(opSame, op(opItem), str("a1")))}[m.Intn(7)]
}

// listExpr answers what its items are, too.
func (m *maker) listExpr(item int) (expr.Expr, int) {
	if m.oneIn(150) {
		return get("t"), itemWord
	}
	if item == itemRow && m.oneIn(2) {
		return of(op(opItem), "l"), itemWord
	}
	if item == itemList {
		return op(opItem), itemWord
	}
	switch m.Intn(6) {
	case 0:
		return get("l"), itemWord
	case 1, 2:
		return get("r"), itemRow
	case 3:
		return op(opMap, get("r"), of(op(opItem), "l")), itemList
	case 4:
		return numbersOf(m.Intn(4)), itemWord
	}
	return op(opFilter, get("l"), op(opNot, op(opSame, op(opItem), str("a1")))), itemWord
}

func (m *maker) template() view.Template {
	m.room = []int{3, 10, 30, 64}[m.Intn(4)]
	return m.element(itemNone, 1)
}

func (m *maker) element(item, depth int) view.Template {
	m.room--
	t := el([]string{"p", "div", "ul", repeat("t", 16)}[m.Intn(4)])
	switch {
	case m.oneIn(8):
		t.Key = str(m.text())
	case item == itemWord && m.oneIn(2):
		t.Key = op(opItem)
	case item == itemRow && m.oneIn(2):
		t.Key = of(op(opItem), "k")
	}
	all := []string{"a", "b", "aa", "key", "z", repeat("n", 16), "class", "m"}
	m.Shuffle(len(all), func(i, j int) { all[i], all[j] = all[j], all[i] })
	for _, name := range all[:m.Intn(2+m.Intn(4))] {
		t.Attrs = append(t.Attrs, view.Attr{Name: name, Expr: m.wordExpr(item)})
	}
	t.Kids = m.kids(item, depth)
	return t
}

func (m *maker) kids(item, depth int) []view.Template {
	var kids []view.Template
	for n := m.Intn(5); n > 0 && m.room > 0 && depth < 8; n-- {
		kids = append(kids, m.part(item, depth+1))
	}
	return kids
}

func (m *maker) part(item, depth int) view.Template {
	switch m.Intn(6) {
	case 0:
		m.room--
		return txt(m.wordExpr(item))
	case 1:
		m.room--
		return onlyIf(m.truthExpr(item), m.kids(item, depth)...)
	case 2:
		m.room--
		e, inner := m.listExpr(item)
		return each(e, m.kids(inner, depth)...)
	}
	return m.element(item, depth)
}

// spoilt is x with a fault or two, each of those that a template may have; it changes none of x's lists.
func (m *maker) spoilt(x view.Template) view.Template {
	x = clone(x)
	for range 1 + m.Intn(2) {
		paths := pathsOf(x, nil)
		m.spoil(at(&x, paths[m.Intn(len(paths))]))
	}
	return x
}

func (m *maker) spoil(t *view.Template) {
	bad := faultyExprs()[m.Intn(len(faultyExprs()))].e
	switch m.Intn(12) {
	case 0:
		t.What = m.Intn(7) - 1
	case 1:
		t.Tag = []string{"", "p", "P", "a1", repeat("p", 17), "é"}[m.Intn(6)]
	case 2:
		t.Key = []expr.Expr{bad, yes(), none()}[m.Intn(3)]
	case 3:
		t.Expr = []expr.Expr{bad, yes(), none()}[m.Intn(3)]
	case 4:
		t.Attrs = append(t.Attrs, manyAttrs(10+m.Intn(8)).Attrs...)
	case 5:
		t.Kids = append(t.Kids, manyKids(10+m.Intn(8))...)
	case 6:
		t.Attrs = append(t.Attrs, view.Attr{Name: []string{"a", "b", "zz", "", "A", repeat("n", 17)}[m.Intn(6)]})
	case 7:
		t.Kids = append(t.Kids, inside(2+m.Intn(8), txt(none())))
	case 8:
		t.Kids = append(t.Kids, manyParts(40+m.Intn(26)))
	case 9:
		t.Attrs = append(t.Attrs, view.Attr{Name: "zz", Expr: bad})
	case 10:
		t.Kids = append(t.Kids, parts()[m.Intn(4)])
	case 11:
		t.Kids = append(t.Kids, view.Template{What: m.Intn(5), Expr: bad})
	}
}

// clone is a copy of x's parts by the tests' own hand.
func clone(x view.Template) view.Template {
	x.Attrs = append([]view.Attr(nil), x.Attrs...)
	kids := make([]view.Template, 0, len(x.Kids))
	for _, kid := range x.Kids {
		kids = append(kids, clone(kid))
	}
	x.Kids = kids
	return x
}
