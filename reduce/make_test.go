package reduce_test

import (
	"math"
	"slices"
	"strconv"
	"strings"
	"testing"

	"fanlight/api"
	"fanlight/expr"
	"fanlight/reduce"
)

const (
	kindNothing = 0
	kindTruth   = 1
	kindNumber  = 2
	kindText    = 3
	kindList    = 4
	kindRecord  = 5
)

const (
	opNothing = 0
	opFalse   = 1
	opTrue    = 2
	opNumber  = 3
	opText    = 4
	opState   = 5
	opEvent   = 6
	opItem    = 7
	opGet     = 8
	opAt      = 9
	opLen     = 10
	opAdd     = 11
	opSame    = 16
	opLess    = 17
	opAnd     = 18
	opOr      = 19
	opNot     = 20
	opIf      = 21
	opJoin    = 22
	opList    = 23
	opPush    = 24
	opWith    = 25
	opDigits  = 26
	opMap     = 27
	opFilter  = 28
	opFind    = 29
)

func nothing() api.Value {
	return api.Value{}
}

func truth(is bool) api.Value {
	if is {
		return api.Value{Kind: kindTruth, Bits: 1}
	}
	return api.Value{Kind: kindTruth}
}

func number(f float64) api.Value {
	return api.Value{Kind: kindNumber, Bits: math.Float64bits(f)}
}

func text(s string) api.Value {
	return api.Value{Kind: kindText, Text: s}
}

func list(items ...api.Value) api.Value {
	return api.Value{Kind: kindList, Items: items}
}

// numbers is a list of n numbers, from 0 on.
func numbers(n int) api.Value {
	l := list()
	for i := range n {
		l.Items = append(l.Items, number(float64(i)))
	}
	return l
}

// record takes its keys in one text, a space between two.
func record(keys string, items ...api.Value) api.Value {
	return api.Value{Kind: kindRecord, Keys: strings.Fields(keys), Items: items}
}

// wideRecord is a record of n keys, k00 and on, its items numbers from 0 on.
func wideRecord(n int) api.Value {
	r := record("")
	for i := range n {
		r.Keys = append(r.Keys, "k"+strconv.Itoa(i/10)+strconv.Itoa(i%10))
		r.Items = append(r.Items, number(float64(i)))
	}
	return r
}

// deep is v within so many lists that it is the n-th of parts within each other.
func deep(n int, v api.Value) api.Value {
	for range n - 1 {
		v = list(v)
	}
	return v
}

// ofParts is a list of n parts, itself counted, 3 deep: n is at most 1 + 32*33.
func ofParts(n int) api.Value {
	l := list()
	for n--; n > 0; {
		inner := min(n, 1+api.MaxItems)
		l.Items = append(l.Items, numbers(inner-1))
		n -= inner
	}
	return l
}

// withinItself is a list that is its own only item.
func withinItself() api.Value {
	v := list(nothing())
	v.Items[0] = v
	return v
}

// exprWithinItself is an expression that is its own only Arg.
func exprWithinItself() expr.Expr {
	e := op(opNot, no())
	e.Args[0] = e
	return e
}

func repeat(s string, n int) string {
	return strings.Repeat(s, n)
}

func op(n int, args ...expr.Expr) expr.Expr {
	return expr.Expr{Op: n, Args: args}
}

func state() expr.Expr {
	return op(opState)
}

func event() expr.Expr {
	return op(opEvent)
}

func item() expr.Expr {
	return op(opItem)
}

func yes() expr.Expr {
	return op(opTrue)
}

func no() expr.Expr {
	return op(opFalse)
}

func num(f float64) expr.Expr {
	return expr.Expr{Op: opNumber, Bits: math.Float64bits(f)}
}

func str(s string) expr.Expr {
	return expr.Expr{Op: opText, Text: s}
}

// get is what the state has at that key.
func get(key string) expr.Expr {
	return expr.Expr{Op: opGet, Text: key, Args: []expr.Expr{state()}}
}

// plus is what the state has at that key, and f more.
func plus(key string, f float64) expr.Expr {
	return op(opAdd, get(key), num(f))
}

// ofSize is a list of lists that has n parts, each of which is reckoned: n is at least 1.
func ofSize(n int) expr.Expr {
	e := op(opList)
	for left, places := n-1, 8; left > 0; places-- {
		part := (left + places - 1) / places
		e.Args = append(e.Args, ofSize(part))
		left -= part
	}
	return e
}

// burns is false, and takes n of fuel, where the state has 32 items at l: n is at least 3, at most 900.
func burns(n int) expr.Expr {
	if n < 50 {
		return op(opSame, ofSize(n-2), op(opNothing))
	}
	each := (n - 7) / 32
	f := no()
	if each == 2 {
		f = op(opNot, yes())
	} else if each > 2 {
		f = burns(each)
		if each >= 50 {
			panic("the test asks for too much fuel")
		}
	}
	return op(opSame, op(opList, op(opFilter, get("l"), f), ofSize(n-6-32*each)), op(opNothing))
}

// failing is an expression, and the error that reckoning it tells behind so many parts.
type failing struct {
	e     expr.Expr
	err   api.Errno
	parts int
}

// failings have one expression for each error that reckoning may tell, but for the fuel's; they hang on no scope.
func failings() []failing {
	return []failing{
		{op(opNot, num(1)), api.ErrType, 2},
		{op(opFind, op(opList), yes()), api.ErrNone, 2},
		{op(opAt, op(opList), num(0)), api.ErrIndex, 3},
		{op(opDigits, num(0.5)), api.ErrWhole, 2},
		{op(opJoin, str(repeat("x", 128)), str("y")), api.ErrBig, 3},
	}
}

// faultyExprs are expressions that may not be, each with its error.
func faultyExprs() []failing {
	nine := yes()
	for range 8 {
		nine = op(opNot, nine)
	}
	return []failing{
		{e: op(opNot), err: api.ErrState},
		{e: op(30), err: api.ErrState},
		{e: op(-1), err: api.ErrState},
		{e: op(opNot, op(opNot, op(opNumber, yes()))), err: api.ErrState},
		{e: expr.Expr{Op: opGet, Args: []expr.Expr{state()}}, err: api.ErrState},
		{e: nine, err: api.ErrDeep},
		{e: ofSize(65), err: api.ErrCount},
	}
}

// faultyExprsAndLoop has one more, which tests that go through all its parts can't take.
func faultyExprsAndLoop() []failing {
	return append(faultyExprs(), failing{e: exprWithinItself(), err: api.ErrDeep})
}

// faultyValue is a value that may not be, and its error.
type faultyValue struct {
	v   api.Value
	err api.Errno
}

// faultyValues are records, most of them, that may not be.
func faultyValues() []faultyValue {
	return []faultyValue{
		{api.Value{Kind: 6}, api.ErrState},
		{api.Value{Kind: -1}, api.ErrState},
		{api.Value{Kind: kindRecord, Bits: 1}, api.ErrState},
		{api.Value{Kind: kindRecord, Text: "x"}, api.ErrState},
		{api.Value{Kind: kindNothing, Bits: 1}, api.ErrState},
		{api.Value{Kind: kindTruth, Bits: 2}, api.ErrState},
		{record("b a", nothing(), nothing()), api.ErrState},
		{record("a a", nothing(), nothing()), api.ErrState},
		{record("a b", nothing()), api.ErrState},
		{record("a", text(repeat("x", 129))), api.ErrState},
		{record("a", api.Value{Kind: kindNumber, Bits: 0x7ff8000000000001}), api.ErrState},
		{record("a", numbers(33)), api.ErrState},
		{wideRecord(33), api.ErrState},
		{record("a", deep(8, nothing())), api.ErrDeep},
		{record("a", ofParts(512)), api.ErrCount},
	}
}

// faultyValuesAndLoop has one more, which tests that go through all its parts can't take.
func faultyValuesAndLoop() []faultyValue {
	return append(faultyValues(), faultyValue{record("a", withinItself()), api.ErrDeep})
}

func set(key string, e expr.Expr) reduce.Set {
	return reduce.Set{Key: key, Expr: e}
}

func emit(when expr.Expr, name string, arg expr.Expr) reduce.Emit {
	return reduce.Emit{When: when, Name: name, Arg: arg}
}

// sets take keys and expressions in turn.
func sets(keys string, exprs ...expr.Expr) []reduce.Set {
	var l []reduce.Set
	for i, key := range strings.Fields(keys) {
		l = append(l, set(key, exprs[i]))
	}
	return l
}

// doing is a program with one handler, of the event e.
func doing(init api.Value, s []reduce.Set, l ...reduce.Emit) reduce.Program {
	return reduce.Program{Init: init, Handlers: []reduce.Handler{{On: "e", Sets: s, Emits: l}}}
}

// handling is a program with so many handlers, that do nothing: of h00, h01 and so on.
func handling(n int) reduce.Program {
	p := reduce.Program{Init: record("")}
	for i := range n {
		p.Handlers = append(p.Handlers, reduce.Handler{On: "h" + strconv.Itoa(i/10) + strconv.Itoa(i%10)})
	}
	return p
}

func happening(name string, arg api.Value) api.Event {
	return api.Event{Name: name, Arg: arg}
}

// e is the event that a program made by doing has a handler of.
func e(arg api.Value) api.Event {
	return happening("e", arg)
}

func effect(name string, arg api.Value) api.Effect {
	return api.Effect{Name: name, Arg: arg}
}

// tell writes v out, so that two values are one just if what is told is one; nil and empty lists are told alike.
func tell(v api.Value) string {
	return tellTo(v, 12)
}

// tellTo ends at that depth, as a list may lie within itself.
func tellTo(v api.Value, depth int) string {
	if depth == 0 {
		return ".."
	}
	var s strings.Builder
	s.WriteString("(" + strconv.Itoa(v.Kind) + " " + strconv.FormatUint(v.Bits, 16) + " " + strconv.Quote(v.Text))
	for _, k := range v.Keys {
		s.WriteString(" " + strconv.Quote(k))
	}
	for _, i := range v.Items {
		s.WriteString(" " + tellTo(i, depth-1))
	}
	return s.String() + ")"
}

func tellEffects(l []api.Effect) string {
	s := "effects"
	for _, x := range l {
		s += " " + strconv.Quote(x.Name) + tell(x.Arg)
	}
	return s
}

func tellExpr(e expr.Expr) string {
	return tellExprTo(e, 12)
}

func tellExprTo(e expr.Expr, depth int) string {
	if depth == 0 {
		return ".."
	}
	var s strings.Builder
	s.WriteString("[" + strconv.Itoa(e.Op))
	if e.Op == opNumber {
		s.WriteString(" " + strconv.FormatUint(e.Bits, 16))
	}
	if e.Text != "" {
		s.WriteString(" " + strconv.Quote(e.Text))
	}
	for _, arg := range e.Args {
		s.WriteString(" " + tellExprTo(arg, depth-1))
	}
	return s.String() + "]"
}

func tellProgram(p reduce.Program) string {
	s := "from " + tell(p.Init)
	for _, h := range p.Handlers {
		s += " on " + strconv.Quote(h.On)
		for _, x := range h.Sets {
			s += " set " + strconv.Quote(x.Key) + " " + tellExpr(x.Expr)
		}
		for _, x := range h.Emits {
			s += " when " + tellExpr(x.When) + " " + strconv.Quote(x.Name) + " " + tellExpr(x.Arg)
		}
	}
	return s
}

func tellEvents(l []api.Event) string {
	s := "events"
	for _, x := range l {
		s += " " + strconv.Quote(x.Name) + tell(x.Arg)
	}
	return s
}

// isZero tells whether v is the zero value, its lists nil.
func isZero(v api.Value) bool {
	return v.Kind == 0 && v.Bits == 0 && v.Text == "" && v.Keys == nil && v.Items == nil
}

// mustStep holds what Step tells of p, v and x, and that Fold tells the same of p begun with v.
func mustStep(t *testing.T, p reduce.Program, v api.Value, x api.Event, want api.Value, effects ...api.Effect) {
	t.Helper()
	next, l, err := reduce.Step(p, v, x)
	if tell(next) != tell(want) || tellEffects(l) != tellEffects(effects) || err != api.OK {
		t.Errorf("P16.2: Step(%s; %s, %s): %s, %s, %v, want %s, %s", tellProgram(p), tell(v), tellEvents([]api.Event{x}), tell(next), tellEffects(l), err, tell(want), tellEffects(effects))
	}
	p.Init = v
	mustFold(t, p, []api.Event{x}, want, effects, 1, api.OK)
}

// mustRefuse holds that Step refuses x with that error and tells nothing beside it, and that Fold begun with v stays there.
func mustRefuse(t *testing.T, p reduce.Program, v api.Value, x api.Event, want api.Errno) {
	t.Helper()
	mustTellErr(t, p, v, x, want)
	p.Init = v
	mustFold(t, p, []api.Event{x}, v, nil, 0, want)
}

// mustTellErr holds that Step tells that error, and nothing beside it.
func mustTellErr(t *testing.T, p reduce.Program, v api.Value, x api.Event, want api.Errno) {
	t.Helper()
	next, l, err := reduce.Step(p, v, x)
	if !isZero(next) || l != nil || err != want {
		t.Errorf("P16.2, P16.3, P4: Step with an event %s: %s, %s, %v, want error %v and nothing else", strconv.Quote(x.Name), tell(next), tellEffects(l), err, want)
	}
}

func mustFold(t *testing.T, p reduce.Program, l []api.Event, want api.Value, effects []api.Effect, done int, werr api.Errno) {
	t.Helper()
	v, asked, n, err := reduce.Fold(p, l)
	if tell(v) != tell(want) || tellEffects(asked) != tellEffects(effects) || n != done || err != werr {
		t.Errorf("P16.2: Fold(%s; %s): %s, %s, %d, %v, want %s, %s, %d, %v", tellProgram(p), tellEvents(l), tell(v), tellEffects(asked), n, err, tell(want), tellEffects(effects), done, werr)
	}
}

// mustCheck holds what Check tells of p, and that Step and Fold tell the same ahead of all else, and nothing beside it.
func mustCheck(t *testing.T, what string, p reduce.Program, want api.Errno) {
	t.Helper()
	if err := reduce.Check(p); err != want {
		t.Errorf("P16.1: Check of %s: %v, want %v", what, err, want)
	}
	if want == api.OK {
		return
	}
	for _, v := range []api.Value{record(""), nothing(), {Kind: 6}} {
		for _, x := range []api.Event{{}, e(nothing()), happening("e", api.Value{Kind: 6}), happening("none", nothing())} {
			if next, l, err := reduce.Step(p, v, x); !isZero(next) || l != nil || err != want {
				t.Errorf("P16.2, P4: Step of %s: %s, %s, %v, want %v", what, tell(next), tellEffects(l), err, want)
			}
			if next, l, n, err := reduce.Fold(p, []api.Event{x}); !isZero(next) || l != nil || n != 0 || err != want {
				t.Errorf("P16.2, P4: Fold of %s: %s, %s, %d, %v, want %v", what, tell(next), tellEffects(l), n, err, want)
			}
		}
	}
	if next, l, n, err := reduce.Fold(p, nil); !isZero(next) || l != nil || n != 0 || err != want {
		t.Errorf("P16.2, P4: Fold of %s and no events: %s, %s, %d, %v, want %v", what, tell(next), tellEffects(l), n, err, want)
	}
}

// ofEachKind are values of each kind, by its number.
func ofEachKind() [][]api.Value {
	return [][]api.Value{
		{nothing()},
		{truth(false), truth(true)},
		{number(0), number(1), number(-2.5)},
		{text(""), text("k"), text("\xff")},
		{list(), list(truth(true)), numbers(3), list(record("a", nothing()))},
		{record(""), record("k", text("x")), record("a k z", nothing(), list(), truth(false))},
	}
}

// without is l, but for the one at that place.
func without[T any](l []T, at int) []T {
	return slices.Delete(slices.Clone(l), at, at+1)
}
