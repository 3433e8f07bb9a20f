package view_test

import (
	"math"
	"strconv"
	"strings"
	"testing"

	"fanlight/api"
	"fanlight/expr"
	"fanlight/tree"
	"fanlight/view"
)

const (
	kindNothing = 0
	kindTruth   = 1
	kindNumber  = 2
	kindText    = 3
	kindList    = 4
	kindRecord  = 5
)

const (
	opNothing = 0
	opFalse   = 1
	opTrue    = 2
	opNumber  = 3
	opText    = 4
	opState   = 5
	opEvent   = 6
	opItem    = 7
	opGet     = 8
	opAt      = 9
	opLen     = 10
	opAdd     = 11
	opDiv     = 14
	opSame    = 16
	opNot     = 20
	opIf      = 21
	opJoin    = 22
	opList    = 23
	opDigits  = 26
	opMap     = 27
	opFilter  = 28
	opFind    = 29
)

const (
	whatElement = 1
	whatText    = 2
	whatIf      = 3
	whatEach    = 4
)

func nothing() api.Value {
	return api.Value{}
}

func truth(is bool) api.Value {
	if is {
		return api.Value{Kind: kindTruth, Bits: 1}
	}
	return api.Value{Kind: kindTruth}
}

func number(f float64) api.Value {
	return api.Value{Kind: kindNumber, Bits: math.Float64bits(f)}
}

func text(s string) api.Value {
	return api.Value{Kind: kindText, Text: s}
}

func list(items ...api.Value) api.Value {
	return api.Value{Kind: kindList, Items: items}
}

// texts is a list of the words of s.
func texts(s string) api.Value {
	l := list()
	for _, word := range strings.Fields(s) {
		l.Items = append(l.Items, text(word))
	}
	return l
}

// numbers is a list of n numbers, from 0 on.
func numbers(n int) api.Value {
	l := list()
	for i := range n {
		l.Items = append(l.Items, number(float64(i)))
	}
	return l
}

// record takes its keys in one text, a space between two.
func record(keys string, items ...api.Value) api.Value {
	return api.Value{Kind: kindRecord, Keys: strings.Fields(keys), Items: items}
}

// wideRecord is a record of n keys, k00 and on, its items numbers from 0 on.
func wideRecord(n int) api.Value {
	r := record("")
	for i := range n {
		r.Keys = append(r.Keys, "k"+strconv.Itoa(i/10)+strconv.Itoa(i%10))
		r.Items = append(r.Items, number(float64(i)))
	}
	return r
}

// deep is v within so many lists that it is the n-th of parts within each other.
func deep(n int, v api.Value) api.Value {
	for range n - 1 {
		v = list(v)
	}
	return v
}

// ofParts is a list of n parts, itself counted, 3 deep: n is at most 1 + 32*33.
func ofParts(n int) api.Value {
	l := list()
	for n--; n > 0; {
		inner := min(n, 1+api.MaxItems)
		l.Items = append(l.Items, numbers(inner-1))
		n -= inner
	}
	return l
}

// withinItself is a list that is its own only item.
func withinItself() api.Value {
	v := list(nothing())
	v.Items[0] = v
	return v
}

// exprWithinItself is an expression that is its own only Arg.
func exprWithinItself() expr.Expr {
	e := op(opNot, no())
	e.Args[0] = e
	return e
}

// partWithinItself is a part that is each of its n kids.
func partWithinItself(what, n int) view.Template {
	t := view.Template{What: what, Kids: make([]view.Template, n)}
	if what == whatElement {
		t.Tag = "p"
	}
	for i := range t.Kids {
		t.Kids[i] = t
	}
	return t
}

func repeat(s string, n int) string {
	return strings.Repeat(s, n)
}

func op(n int, args ...expr.Expr) expr.Expr {
	return expr.Expr{Op: n, Args: args}
}

func state() expr.Expr {
	return op(opState)
}

func event() expr.Expr {
	return op(opEvent)
}

func item() expr.Expr {
	return op(opItem)
}

func yes() expr.Expr {
	return op(opTrue)
}

func no() expr.Expr {
	return op(opFalse)
}

func none() expr.Expr {
	return op(opNothing)
}

func num(f float64) expr.Expr {
	return expr.Expr{Op: opNumber, Bits: math.Float64bits(f)}
}

func str(s string) expr.Expr {
	return expr.Expr{Op: opText, Text: s}
}

// get is what the state has at that key.
func get(key string) expr.Expr {
	return of(state(), key)
}

func of(e expr.Expr, key string) expr.Expr {
	return expr.Expr{Op: opGet, Text: key, Args: []expr.Expr{e}}
}

func join(a, b expr.Expr) expr.Expr {
	return op(opJoin, a, b)
}

// ofSize is a list of lists that has n parts, each of which is reckoned: n is at least 1.
func ofSize(n int) expr.Expr {
	e := op(opList)
	for left, places := n-1, 8; left > 0; places-- {
		part := (left + places - 1) / places
		e.Args = append(e.Args, ofSize(part))
		left -= part
	}
	return e
}

// burns is false, and takes n of fuel, where the state has 32 items at l: n is at least 3, at most 900.
func burns(n int) expr.Expr {
	if n < 50 {
		return op(opSame, ofSize(n-2), none())
	}
	each := (n - 7) / 32
	f := no()
	if each == 2 {
		f = op(opNot, yes())
	} else if each > 2 {
		f = burns(each)
	}
	return op(opSame, op(opList, op(opFilter, get("l"), f), ofSize(n-6-32*each)), none())
}

// failing is an expression, and the error that reckoning it tells behind so many parts.
type failing struct {
	e     expr.Expr
	err   api.Errno
	parts int
}

// failings have one expression for each error that reckoning may tell, but for the fuel's; they hang on no scope.
func failings() []failing {
	return []failing{
		{op(opNot, num(1)), api.ErrType, 2},
		{op(opFind, op(opList), yes()), api.ErrNone, 2},
		{op(opAt, op(opList), num(0)), api.ErrIndex, 3},
		{op(opDigits, num(0.5)), api.ErrWhole, 2},
		{join(str(repeat("x", 128)), str("y")), api.ErrBig, 3},
	}
}

// faultyExprs are expressions that may not be, each with its error.
func faultyExprs() []failing {
	nine := yes()
	for range 8 {
		nine = op(opNot, nine)
	}
	return []failing{
		{e: op(opNot), err: api.ErrState},
		{e: op(30), err: api.ErrState},
		{e: op(-1), err: api.ErrState},
		{e: expr.Expr{Op: opNothing, Bits: 1}, err: api.ErrState},
		{e: expr.Expr{Op: opNothing, Text: "x"}, err: api.ErrState},
		{e: op(opNothing, yes()), err: api.ErrState},
		{e: op(opNot, op(opNot, op(opNumber, yes()))), err: api.ErrState},
		{e: expr.Expr{Op: opNumber, Bits: 0x7ff8000000000001}, err: api.ErrState},
		{e: str(repeat("x", 129)), err: api.ErrState},
		{e: of(state(), ""), err: api.ErrState},
		{e: nine, err: api.ErrDeep},
		{e: ofSize(65), err: api.ErrCount},
	}
}

// faultyExprsAndLoop has one more, which tests that go through all its parts can't take.
func faultyExprsAndLoop() []failing {
	return append(faultyExprs(), failing{e: exprWithinItself(), err: api.ErrDeep})
}

// faultyValue is a value that may not be, and its error.
type faultyValue struct {
	v   api.Value
	err api.Errno
}

func faultyValues() []faultyValue {
	return []faultyValue{
		{api.Value{Kind: 6}, api.ErrState},
		{api.Value{Kind: -1}, api.ErrState},
		{api.Value{Kind: kindNothing, Bits: 1}, api.ErrState},
		{api.Value{Kind: kindNothing, Text: "x"}, api.ErrState},
		{api.Value{Kind: kindTruth, Bits: 2}, api.ErrState},
		{api.Value{Kind: kindTruth, Bits: 1, Text: "true"}, api.ErrState},
		{api.Value{Kind: kindNumber, Bits: 0x7ff8000000000001}, api.ErrState},
		{api.Value{Kind: kindNumber, Text: "1"}, api.ErrState},
		{api.Value{Kind: kindText, Bits: 1}, api.ErrState},
		{text(repeat("x", 129)), api.ErrState},
		{api.Value{Kind: kindText, Items: []api.Value{{}}}, api.ErrState},
		{api.Value{Kind: kindRecord, Text: "x"}, api.ErrState},
		{record("b a", nothing(), nothing()), api.ErrState},
		{record("a b", nothing()), api.ErrState},
		{numbers(33), api.ErrState},
		{wideRecord(33), api.ErrState},
		{deep(9, nothing()), api.ErrDeep},
		{ofParts(513), api.ErrCount},
	}
}

// faultyValuesAndLoop has one more, which tests that go through all its parts can't take.
func faultyValuesAndLoop() []faultyValue {
	return append(faultyValues(), faultyValue{withinItself(), api.ErrDeep})
}

// ofEachKind are values of each kind, by its number.
func ofEachKind() [][]api.Value {
	return [][]api.Value{
		{nothing()},
		{truth(false), truth(true)},
		{number(0), number(1), number(-2.5)},
		{text(""), text("k"), text("\xff")},
		{list(), list(truth(true)), numbers(3), list(record("a", nothing()))},
		{record(""), record("k", text("x")), record("a k z", nothing(), list(), truth(false))},
	}
}

func el(tag string, kids ...view.Template) view.Template {
	return view.Template{What: whatElement, Tag: tag, Kids: kids}
}

func keyed(tag string, key expr.Expr, kids ...view.Template) view.Template {
	return view.Template{What: whatElement, Tag: tag, Key: key, Kids: kids}
}

// with takes the attributes' Names in one text, a space between two.
func with(tag, names string, exprs ...expr.Expr) view.Template {
	t := el(tag)
	for i, name := range strings.Fields(names) {
		t.Attrs = append(t.Attrs, view.Attr{Name: name, Expr: exprs[i]})
	}
	return t
}

func txt(e expr.Expr) view.Template {
	return view.Template{What: whatText, Expr: e}
}

func onlyIf(e expr.Expr, kids ...view.Template) view.Template {
	return view.Template{What: whatIf, Expr: e, Kids: kids}
}

func each(e expr.Expr, kids ...view.Template) view.Template {
	return view.Template{What: whatEach, Expr: e, Kids: kids}
}

// parts are sound templates of each What, by its number less 1.
func parts() []view.Template {
	return []view.Template{el("p"), txt(none()), onlyIf(no()), each(op(opList))}
}

// tell writes v out, so that two values are one just if what is told is one; nil and empty lists are told alike.
func tell(v api.Value) string {
	return tellTo(v, 12)
}

// tellTo ends at that depth, as a list may lie within itself.
func tellTo(v api.Value, depth int) string {
	if depth == 0 {
		return ".."
	}
	var s strings.Builder
	s.WriteString("(" + strconv.Itoa(v.Kind) + " " + strconv.FormatUint(v.Bits, 16) + " " + strconv.Quote(v.Text))
	for _, k := range v.Keys {
		s.WriteString(" " + strconv.Quote(k))
	}
	for _, i := range v.Items {
		s.WriteString(" " + tellTo(i, depth-1))
	}
	return s.String() + ")"
}

func tellExpr(e expr.Expr) string {
	return tellExprTo(e, 12)
}

func tellExprTo(e expr.Expr, depth int) string {
	if depth == 0 {
		return ".."
	}
	var s strings.Builder
	s.WriteString("[" + strconv.Itoa(e.Op))
	if e.Bits != 0 || e.Op == opNumber {
		s.WriteString(" " + strconv.FormatUint(e.Bits, 16))
	}
	if e.Text != "" {
		s.WriteString(" " + strconv.Quote(e.Text))
	}
	for _, arg := range e.Args {
		s.WriteString(" " + tellExprTo(arg, depth-1))
	}
	return s.String() + "]"
}

func tellTemplate(t view.Template) string {
	return tellTemplateTo(t, 3)
}

// tellTemplateTo ends at that depth, as a part may lie within itself.
func tellTemplateTo(t view.Template, depth int) string {
	if depth == 0 {
		return ".."
	}
	var s strings.Builder
	s.WriteString("{" + strconv.Itoa(t.What) + " " + strconv.Quote(t.Tag) + " " + tellExpr(t.Key) + " " + tellExpr(t.Expr))
	for _, a := range t.Attrs {
		s.WriteString(" " + strconv.Quote(a.Name) + "=" + tellExpr(a.Expr))
	}
	for _, kid := range t.Kids[:min(len(t.Kids), 20)] {
		s.WriteString(" " + tellTemplateTo(kid, depth-1))
	}
	return s.String() + "}"
}

// tellTree writes x out, so that two trees are one just if what is told is one.
func tellTree(x api.Tree) string {
	var s strings.Builder
	s.WriteString("<" + strconv.Quote(x.Tag) + " " + strconv.Quote(x.Key) + " " + strconv.Quote(x.Text))
	for _, a := range x.Attrs {
		s.WriteString(" " + strconv.Quote(a.Name) + "=" + strconv.Quote(a.Value))
	}
	for _, kid := range x.Kids {
		s.WriteString(" " + tellTree(kid))
	}
	return s.String() + ">"
}

// isNone tells whether x is the zero tree, its lists nil.
func isNone(x api.Tree) bool {
	return x.Tag == "" && x.Key == "" && x.Text == "" && x.Attrs == nil && x.Kids == nil
}

// mustPrint holds that Render with all fuel tells a tree that may be and has that print.
func mustPrint(t *testing.T, what string, x view.Template, v api.Value, want string) {
	t.Helper()
	made, err := view.Render(x, v, api.MaxFuel)
	if got, bad := tree.Print(made); got != want || err != api.OK || bad != api.OK {
		t.Errorf("P17.2: Render of %s with %s: %s, %v (tree.Print: %v), want %s", what, tell(v), got, err, bad, want)
	}
}

// mustMake holds that Render with all fuel tells just that tree.
func mustMake(t *testing.T, what string, x view.Template, v api.Value, want api.Tree) {
	t.Helper()
	if made, err := view.Render(x, v, api.MaxFuel); tellTree(made) != tellTree(want) || err != api.OK {
		t.Errorf("P17.2: Render of %s with %s: %s, %v, want %s", what, tell(v), tellTree(made), err, tellTree(want))
	}
}

// mustRefuse holds that Render tells that error, and no tree beside it.
func mustRefuse(t *testing.T, what string, x view.Template, v api.Value, fuel int, want api.Errno) {
	t.Helper()
	if made, err := view.Render(x, v, fuel); !isNone(made) || err != want {
		t.Errorf("P17.2, P4: Render of %s with fuel %d: %s, %v, want error %v and no tree", what, fuel, tellTree(made), err, want)
	}
}

// mustTake holds that Render takes just n of fuel.
func mustTake(t *testing.T, what string, x view.Template, v api.Value, n int) {
	t.Helper()
	full, err := view.Render(x, v, api.MaxFuel)
	if err != api.OK {
		t.Errorf("P17.2: Render of %s with all fuel: %v", what, err)
	}
	for fuel := n; fuel <= min(n+3, api.MaxFuel); fuel++ {
		if made, err := view.Render(x, v, fuel); tellTree(made) != tellTree(full) || err != api.OK {
			t.Errorf("P17.2: Render of %s, which takes %d of fuel, with %d: %s, %v, want %s", what, n, fuel, tellTree(made), err, tellTree(full))
		}
	}
	for fuel := max(n-70, 0); fuel < n; fuel++ {
		mustRefuse(t, what+", which takes more", x, v, fuel, api.ErrFuel)
	}
}

// mustCheck holds what Check tells of x, and that Render tells the same ahead of all else, and nothing beside it.
func mustCheck(t *testing.T, what string, x view.Template, want api.Errno) {
	t.Helper()
	if err := view.Check(x); err != want {
		t.Errorf("P17.1: Check of %s: %v, want %v", what, err, want)
	}
	if want == api.OK {
		return
	}
	for _, v := range []api.Value{nothing(), {Kind: 6}, deep(9, nothing())} {
		for _, fuel := range []int{-1, 0, api.MaxFuel, api.MaxFuel + 1} {
			mustRefuse(t, what, x, v, fuel, want)
		}
	}
}

// mustCheckEverywhere holds what Check tells of a part, wherever in a sound template it stands.
func mustCheckEverywhere(t *testing.T, what string, part view.Template, want api.Errno) {
	t.Helper()
	if part.What == whatElement {
		mustCheck(t, what+", as root", part, want)
	}
	mustCheck(t, what+", as only kid", el("p", part), want)
	mustCheck(t, what+", behind others", el("p", append(parts(), part)...), want)
	mustCheck(t, what+", ahead of others", el("p", append([]view.Template{part}, parts()...)...), want)
	mustCheck(t, what+", within others", el("p", txt(none()), each(op(opList), txt(none()), onlyIf(no(), el("b"), part))), want)
}
