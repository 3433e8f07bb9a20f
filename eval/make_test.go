package eval_test

import (
	"math"
	"slices"
	"strconv"
	"strings"
	"testing"

	"fanlight/api"
	"fanlight/eval"
	"fanlight/expr"
)

const (
	kindNothing = 0
	kindTruth   = 1
	kindNumber  = 2
	kindText    = 3
	kindList    = 4
	kindRecord  = 5
)

const (
	opNothing = 0
	opFalse   = 1
	opTrue    = 2
	opNumber  = 3
	opText    = 4
	opState   = 5
	opEvent   = 6
	opItem    = 7
	opGet     = 8
	opAt      = 9
	opLen     = 10
	opAdd     = 11
	opSub     = 12
	opMul     = 13
	opDiv     = 14
	opFloor   = 15
	opSame    = 16
	opLess    = 17
	opAnd     = 18
	opOr      = 19
	opNot     = 20
	opIf      = 21
	opJoin    = 22
	opList    = 23
	opPush    = 24
	opWith    = 25
	opDigits  = 26
	opMap     = 27
	opFilter  = 28
	opFind    = 29
)

const (
	minusZero = 1 << 63
	plusInf   = 0x7ff0000000000000
	minusInf  = 0xfff0000000000000
	oneNaN    = 0x7ff8000000000000
)

func nothing() api.Value {
	return api.Value{}
}

func truth(is bool) api.Value {
	if is {
		return api.Value{Kind: kindTruth, Bits: 1}
	}
	return api.Value{Kind: kindTruth}
}

func number(f float64) api.Value {
	return bits(math.Float64bits(f))
}

func bits(b uint64) api.Value {
	return api.Value{Kind: kindNumber, Bits: b}
}

func text(s string) api.Value {
	return api.Value{Kind: kindText, Text: s}
}

func list(items ...api.Value) api.Value {
	return api.Value{Kind: kindList, Items: items}
}

// numbers is a list of n numbers, from 0 on.
func numbers(n int) api.Value {
	l := list()
	for i := range n {
		l.Items = append(l.Items, number(float64(i)))
	}
	return l
}

// record takes its keys in one text, a space between two.
func record(keys string, items ...api.Value) api.Value {
	return api.Value{Kind: kindRecord, Keys: strings.Fields(keys), Items: items}
}

// wideRecord is a record of n keys, k00 and on, its items numbers from 0 on.
func wideRecord(n int) api.Value {
	r := record("")
	for i := range n {
		r.Keys = append(r.Keys, "k"+strconv.Itoa(i/10)+strconv.Itoa(i%10))
		r.Items = append(r.Items, number(float64(i)))
	}
	return r
}

// deep is v within so many lists that it is the n-th of parts within each other.
func deep(n int, v api.Value) api.Value {
	for range n - 1 {
		v = list(v)
	}
	return v
}

// ofParts is a list of n parts, itself counted, 3 deep, with room for another item: n is at most 1 + 31*33.
func ofParts(n int) api.Value {
	l := list()
	for n--; n > 0; {
		inner := min(n, 1+api.MaxItems)
		l.Items = append(l.Items, numbers(inner-1))
		n -= inner
	}
	return l
}

// withinItself is a list that is its own only item.
func withinItself() api.Value {
	v := list(nothing())
	v.Items[0] = v
	return v
}

func repeat(s string, n int) string {
	return strings.Repeat(s, n)
}

func op(n int, args ...expr.Expr) expr.Expr {
	return expr.Expr{Op: n, Args: args}
}

// keyed is an op with a key, which none but get and with has.
func keyed(n int, key string, args ...expr.Expr) expr.Expr {
	return expr.Expr{Op: n, Text: key, Args: args}
}

func state() expr.Expr {
	return op(opState)
}

func event() expr.Expr {
	return op(opEvent)
}

func item() expr.Expr {
	return op(opItem)
}

func yes() expr.Expr {
	return op(opTrue)
}

func no() expr.Expr {
	return op(opFalse)
}

func num(f float64) expr.Expr {
	return expr.Expr{Op: opNumber, Bits: math.Float64bits(f)}
}

func str(s string) expr.Expr {
	return expr.Expr{Op: opText, Text: s}
}

func get(key string, from expr.Expr) expr.Expr {
	return keyed(opGet, key, from)
}

func with(key string, r, x expr.Expr) expr.Expr {
	return keyed(opWith, key, r, x)
}

// keyOf is the key of ops that need one.
func keyOf(n int) string {
	if n == opGet || n == opWith {
		return "k"
	}
	return ""
}

// failing is an expression, and the error that reckoning it tells behind so many parts.
type failing struct {
	e     expr.Expr
	err   api.Errno
	parts int
}

// failings have one expression for each error that reckoning may tell, but for the fuel's; they hang on no scope.
func failings() []failing {
	return []failing{
		{op(opNot, num(1)), api.ErrType, 2},
		{op(opFind, op(opList), yes()), api.ErrNone, 2},
		{op(opAt, op(opList), num(0)), api.ErrIndex, 3},
		{op(opDigits, num(0.5)), api.ErrWhole, 2},
		{op(opJoin, str(repeat("x", 128)), str("y")), api.ErrBig, 3},
	}
}

// scope holds up to three values: its State, Event and Item.
func scope(values ...api.Value) eval.Scope {
	three := append(slices.Clone(values), nothing(), nothing(), nothing())
	return eval.Scope{State: three[0], Event: three[1], Item: three[2]}
}

// asked is what state, event and item are asked for as Args.
func asked(n int) []expr.Expr {
	return []expr.Expr{state(), event(), item()}[:n]
}

// tell writes v out, so that two values are one just if what is told is one; nil and empty lists are told alike.
func tell(v api.Value) string {
	var s strings.Builder
	s.WriteString("(" + strconv.Itoa(v.Kind) + " " + strconv.FormatUint(v.Bits, 16) + " " + strconv.Quote(v.Text))
	for _, k := range v.Keys {
		s.WriteString(" " + strconv.Quote(k))
	}
	for _, i := range v.Items {
		s.WriteString(" " + tell(i))
	}
	return s.String() + ")"
}

func tellExpr(e expr.Expr) string {
	var s strings.Builder
	s.WriteString("[" + strconv.Itoa(e.Op))
	if e.Op == opNumber {
		s.WriteString(" " + strconv.FormatUint(e.Bits, 16))
	}
	if e.Text != "" {
		s.WriteString(" " + strconv.Quote(e.Text))
	}
	for _, arg := range e.Args {
		s.WriteString(" " + tellExpr(arg))
	}
	return s.String() + "]"
}

func tellScope(s eval.Scope) string {
	return tell(s.State) + ", " + tell(s.Event) + ", " + tell(s.Item)
}

// isZero tells whether v is the zero value, its lists nil.
func isZero(v api.Value) bool {
	return v.Kind == 0 && v.Bits == 0 && v.Text == "" && v.Keys == nil && v.Items == nil
}

// full is Eval with all the fuel that may be.
func full(e expr.Expr, s eval.Scope) (api.Value, int, api.Errno) {
	return eval.Eval(e, s, api.MaxFuel)
}

// mustCost holds that e takes cost of fuel to come to what it tells: with any fewer there is none left, and more changes nothing but what is left.
func mustCost(t *testing.T, e expr.Expr, s eval.Scope, cost int, want api.Value, werr api.Errno) {
	t.Helper()
	for _, fuel := range []int{0, 1, cost - 2, cost - 1, cost, cost + 1, 2 * cost, api.MaxFuel - 1, api.MaxFuel} {
		if fuel < 0 || fuel > api.MaxFuel {
			continue
		}
		told, left, err := want, fuel-cost, werr
		if fuel < cost {
			err = api.ErrFuel
		}
		if err != api.OK {
			told, left = nothing(), 0
		}
		v, n, got := eval.Eval(e, s, fuel)
		if tell(v) != tell(told) || n != left || got != err || err != api.OK && !isZero(v) {
			t.Errorf("P15.1, P15.3, P4: Eval(%s; %s) with fuel %d: %s, %d, %v, want %s, %d, %v", tellExpr(e), tellScope(s), fuel, tell(v), n, got, tell(told), left, err)
			return
		}
	}
}

func mustTell(t *testing.T, e expr.Expr, s eval.Scope, cost int, want api.Value) {
	t.Helper()
	mustCost(t, e, s, cost, want, api.OK)
}

func mustFail(t *testing.T, e expr.Expr, s eval.Scope, cost int, want api.Errno) {
	t.Helper()
	mustCost(t, e, s, cost, nothing(), want)
}

// mustMake holds what op n makes of the values, which state, event and item ask for.
func mustMake(t *testing.T, n int, key string, want api.Value, values ...api.Value) {
	t.Helper()
	mustTell(t, keyed(n, key, asked(len(values))...), scope(values...), 1+len(values), want)
}

func mustRefuse(t *testing.T, n int, key string, want api.Errno, values ...api.Value) {
	t.Helper()
	mustFail(t, keyed(n, key, asked(len(values))...), scope(values...), 1+len(values), want)
}

// ofEachKind are values of each kind, by its number.
func ofEachKind() [][]api.Value {
	return [][]api.Value{
		{nothing()},
		{truth(false), truth(true)},
		{number(0), number(1), number(-2.5), bits(plusInf), bits(oneNaN)},
		{text(""), text("k"), text("\xff")},
		{list(), list(truth(true)), numbers(3)},
		{record(""), record("k", text("x")), record("a k z", nothing(), list(), truth(false))},
	}
}
