package eval_test

import (
	"math"
	"math/big"
	"math/rand"
	"slices"
	"strings"
	"testing"

	"fanlight/api"
	"fanlight/eval"
	"fanlight/expr"
)

// slow reckons by the chapter's words, one after the other: what e is, what is left of the fuel, and the first error.
func slow(e expr.Expr, s eval.Scope, fuel int) (api.Value, int, api.Errno) {
	if fuel == 0 {
		return nothing(), 0, api.ErrFuel
	}
	fuel--
	switch e.Op {
	case opNothing:
		return nothing(), fuel, api.OK
	case opFalse:
		return truth(false), fuel, api.OK
	case opTrue:
		return truth(true), fuel, api.OK
	case opNumber:
		return bits(e.Bits), fuel, api.OK
	case opText:
		return text(e.Text), fuel, api.OK
	case opState:
		return s.State, fuel, api.OK
	case opEvent:
		return s.Event, fuel, api.OK
	case opItem:
		return s.Item, fuel, api.OK
	case opMap, opFilter, opFind:
		return slowThrough(e, s, fuel)
	}
	var args []api.Value
	for _, arg := range e.Args {
		if n := len(args); n > 0 && (e.Op == opAnd || e.Op == opOr || e.Op == opIf) {
			if args[0].Kind != kindTruth {
				return nothing(), 0, api.ErrType
			}
			is := args[0].Bits == 1
			if e.Op == opAnd && !is || e.Op == opOr && is {
				return truth(is), fuel, api.OK
			}
			if e.Op == opIf && is != (n == 1) {
				args = append(args, nothing())
				continue
			}
		}
		v, left, err := slow(arg, s, fuel)
		if err != api.OK {
			return nothing(), 0, err
		}
		fuel = left
		args = append(args, v)
	}
	v, err := slowOp(e, args)
	if err != api.OK {
		return nothing(), 0, err
	}
	return v, fuel, api.OK
}

func slowThrough(e expr.Expr, s eval.Scope, fuel int) (api.Value, int, api.Errno) {
	l, fuel, err := slow(e.Args[0], s, fuel)
	if err != api.OK {
		return nothing(), 0, err
	}
	if l.Kind != kindList {
		return nothing(), 0, api.ErrType
	}
	made := list()
	for _, x := range l.Items {
		v, left, err := slow(e.Args[1], eval.Scope{State: s.State, Event: s.Event, Item: x}, fuel)
		if err != api.OK {
			return nothing(), 0, err
		}
		fuel = left
		if e.Op == opMap {
			made.Items = append(made.Items, v)
			continue
		}
		if v.Kind != kindTruth {
			return nothing(), 0, api.ErrType
		}
		if v.Bits == 1 && e.Op == opFind {
			return x, fuel, api.OK
		}
		if v.Bits == 1 {
			made.Items = append(made.Items, x)
		}
	}
	if e.Op == opFind {
		return nothing(), 0, api.ErrNone
	}
	if !slowFits(made) {
		return nothing(), 0, api.ErrBig
	}
	return made, fuel, api.OK
}

// slowFits tells whether v is not too deep, and has not too many parts, items and keys.
func slowFits(v api.Value) bool {
	return depthOf(v) <= 8 && partsOf(v) <= 512 && len(v.Items) <= 32
}

func depthOf(v api.Value) int {
	n := 0
	for _, item := range v.Items {
		n = max(n, depthOf(item))
	}
	return n + 1
}

// slowOp is what an op makes of Args that are reckoned.
func slowOp(e expr.Expr, a []api.Value) (api.Value, api.Errno) {
	kinds := ""
	for _, arg := range a {
		kinds += string("-bntlr"[arg.Kind])
	}
	switch e.Op {
	case opAdd, opSub, opMul, opDiv:
		if kinds != "nn" {
			return nothing(), api.ErrType
		}
		x, y := math.Float64frombits(a[0].Bits), math.Float64frombits(a[1].Bits)
		return canonical([]float64{x + y, x - y, x * y, x / y}[e.Op-opAdd]), api.OK
	case opFloor:
		if kinds != "n" {
			return nothing(), api.ErrType
		}
		return canonical(math.Floor(math.Float64frombits(a[0].Bits))), api.OK
	case opSame:
		return truth(tell(a[0]) == tell(a[1])), api.OK
	case opLess:
		if a[0].Kind != a[1].Kind {
			return nothing(), api.ErrType
		}
		return truth(slowCompare(a[0], a[1]) < 0), api.OK
	case opAnd, opOr:
		if kinds != "bb" {
			return nothing(), api.ErrType
		}
		return a[1], api.OK
	case opNot:
		if kinds != "b" {
			return nothing(), api.ErrType
		}
		return truth(a[0].Bits == 0), api.OK
	case opIf:
		return a[2-a[0].Bits], api.OK
	case opDigits:
		n, isWhole := wholeOf(a[0])
		if kinds != "n" {
			return nothing(), api.ErrType
		} else if !isWhole {
			return nothing(), api.ErrWhole
		}
		return text(n.String()), api.OK
	}
	return slowParts(e, a, kinds)
}

// slowParts is what ops make that ask for parts of values, or make values of parts.
func slowParts(e expr.Expr, a []api.Value, kinds string) (api.Value, api.Errno) {
	var made api.Value
	switch e.Op {
	case opGet:
		if kinds != "r" {
			return nothing(), api.ErrType
		}
		for i, key := range a[0].Keys {
			if key == e.Text {
				return a[0].Items[i], api.OK
			}
		}
		return nothing(), api.ErrNone
	case opAt:
		if kinds != "ln" {
			return nothing(), api.ErrType
		}
		n, isWhole := wholeOf(a[1])
		for i, x := range a[0].Items {
			if isWhole && n.Cmp(big.NewInt(int64(i))) == 0 {
				return x, api.OK
			}
		}
		return nothing(), api.ErrIndex
	case opLen:
		switch kinds {
		case "t":
			return number(float64(len([]byte(a[0].Text)))), api.OK
		case "l", "r":
			return number(float64(len(a[0].Items))), api.OK
		}
		return nothing(), api.ErrType
	case opJoin:
		if kinds != "tt" {
			return nothing(), api.ErrType
		}
		if made = text(a[0].Text + a[1].Text); len(made.Text) > 128 {
			return nothing(), api.ErrBig
		}
	case opList:
		made = list(a...)
	case opPush:
		if kinds[0] != 'l' {
			return nothing(), api.ErrType
		}
		made = list(append(slices.Clone(a[0].Items), a[1])...)
	case opWith:
		if kinds[0] != 'r' {
			return nothing(), api.ErrType
		}
		made = slowWith(a[0], e.Text, a[1])
	}
	if !slowFits(made) {
		return nothing(), api.ErrBig
	}
	return made, api.OK
}

// slowWith makes the record anew from a map.
func slowWith(r api.Value, key string, x api.Value) api.Value {
	items := map[string]api.Value{}
	for i, k := range r.Keys {
		items[k] = r.Items[i]
	}
	items[key] = x
	made := record("")
	for k := range items {
		made.Keys = append(made.Keys, k)
	}
	slices.Sort(made.Keys)
	for _, k := range made.Keys {
		made.Items = append(made.Items, items[k])
	}
	return made
}

func canonical(f float64) api.Value {
	if f != f {
		return bits(oneNaN)
	}
	return number(f)
}

// wholeOf is the whole number that v's Bits are, if they are one from -2^53 to 2^53.
func wholeOf(v api.Value) (*big.Int, bool) {
	f := math.Float64frombits(v.Bits)
	if f != f || math.IsInf(f, 0) || math.Abs(f) > 1<<53 {
		return nil, false
	}
	n, how := new(big.Float).SetFloat64(f).Int(nil)
	return n, how == big.Exact
}

// slowCompare is the order of values of layer 2, of values of one kind.
func slowCompare(a, b api.Value) int {
	if a.Kind != b.Kind {
		return a.Kind - b.Kind
	}
	switch a.Kind {
	case kindTruth:
		return int(a.Bits) - int(b.Bits)
	case kindNumber:
		return slowNumbers(a.Bits, b.Bits)
	case kindText:
		return strings.Compare(a.Text, b.Text)
	case kindRecord:
		if c := slices.Compare(a.Keys, b.Keys); c != 0 {
			return c
		}
	}
	return slices.CompareFunc(a.Items, b.Items, slowCompare)
}

// slowNumbers has a minus zero ahead of a plus zero, and a NaN behind all.
func slowNumbers(a, b uint64) int {
	x, y := math.Float64frombits(a), math.Float64frombits(b)
	switch {
	case a == b:
		return 0
	case x != x || x > y || a == 0 && b == minusZero:
		return 1
	}
	return -1
}

// mustReckonAsSlowly holds Eval with that fuel against the slow reckoning. It answers the error and what was left.
func mustReckonAsSlowly(t *testing.T, e expr.Expr, s eval.Scope, fuel int) (int, api.Errno) {
	t.Helper()
	want, wleft, werr := slow(e, s, fuel)
	v, left, err := eval.Eval(e, s, fuel)
	if tell(v) != tell(want) || left != wleft || err != werr || err != api.OK && !isZero(v) {
		t.Fatalf("P15.1: Eval(%s; %s) with fuel %d: %s, %d, %v, want %s, %d, %v", tellExpr(e), tellScope(s), fuel, tell(v), left, err, tell(want), wleft, werr)
	}
	return left, err
}

// TestByChance: expressions most of which have a value, from a fixed rule, with all fuel, with just enough and with less.
func TestByChance(t *testing.T) {
	r := rand.New(rand.NewSource(15))
	told := map[api.Errno]int{}
	ops := map[int]int{}
	for range 20000 {
		e, s := someExpr(r), eval.Scope{State: someState(r), Event: someState(r), Item: someItem(r)}
		if expr.Check(e) != api.OK {
			t.Fatalf("the expression of the test may not be: %s", tellExpr(e))
		}
		left, err := mustReckonAsSlowly(t, e, s, api.MaxFuel)
		told[err]++
		if err == api.OK {
			countOps(e, ops)
			cost := api.MaxFuel - left
			if left, err := mustReckonAsSlowly(t, e, s, cost); left != 0 || err != api.OK {
				t.Fatalf("P15.3: Eval(%s; %s) with fuel %d: %d, %v", tellExpr(e), tellScope(s), cost, left, err)
			}
			if _, err := mustReckonAsSlowly(t, e, s, cost-1); err != api.ErrFuel {
				t.Fatalf("P15.1: Eval(%s; %s) with fuel %d: %v", tellExpr(e), tellScope(s), cost-1, err)
			}
		}
		_, err = mustReckonAsSlowly(t, e, s, r.Intn(20))
		told[err]++
	}
	for _, err := range []api.Errno{api.OK, api.ErrType, api.ErrNone, api.ErrIndex, api.ErrWhole, api.ErrBig, api.ErrFuel} {
		if told[err] < 50 {
			t.Errorf("error %v was to be told only %d times", err, told[err])
		}
	}
	for n := range opFind + 1 {
		if ops[n] < 150 {
			t.Errorf("op %d was only %d times in an expression that has a value", n, ops[n])
		}
	}
}

func countOps(e expr.Expr, ops map[int]int) {
	ops[e.Op]++
	for _, arg := range e.Args {
		countOps(arg, ops)
	}
}

// TestWhatIsToldMayBe: P15.2: each kind's parts are such as layer 2 asks for.
func TestWhatIsToldMayBe(t *testing.T) {
	r := rand.New(rand.NewSource(152))
	for range 6000 {
		e, s := someExpr(r), eval.Scope{State: someState(r), Event: someState(r)}
		if v, _, err := full(e, s); err == api.OK && (!slowFits(v) || !slowMayBe(v)) {
			t.Fatalf("P15.2: Eval(%s; %s): %s may not be", tellExpr(e), tellScope(s), tell(v))
		}
	}
}

func slowMayBe(v api.Value) bool {
	for i, item := range v.Items {
		if !slowMayBe(item) || v.Kind == kindRecord && (v.Keys[i] == "" || len(v.Keys[i]) > 16 || i > 0 && v.Keys[i-1] >= v.Keys[i]) {
			return false
		}
	}
	isNaN := math.IsNaN(math.Float64frombits(v.Bits))
	return v.Kind >= 0 && v.Kind <= 5 && len(v.Items) <= 32 && len(v.Text) <= 128 &&
		(v.Kind == kindText || v.Text == "") && (v.Kind >= kindList || len(v.Items) == 0) &&
		(v.Kind == kindRecord && len(v.Keys) == len(v.Items) || v.Kind != kindRecord && len(v.Keys) == 0) &&
		(v.Kind == kindNumber && (!isNaN || v.Bits == oneNaN) || v.Kind == kindTruth && v.Bits <= 1 || v.Bits == 0)
}
