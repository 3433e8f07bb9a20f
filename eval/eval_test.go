package eval_test

import (
	"math"
	"testing"

	"fanlight/api"
	"fanlight/eval"
	"fanlight/expr"
)

// TestExample: the chapter's example.
func TestExample(t *testing.T) {
	sum := op(opAdd, num(1), num(2))
	v, left, err := eval.Eval(sum, eval.Scope{}, 5)
	if tell(v) != tell(number(3)) || left != 2 || err != api.OK {
		t.Errorf("P15.1: add(1, 2) with fuel 5: %s, %d, %v", tell(v), left, err)
	}
}

func TestPartsWithoutArgs(t *testing.T) {
	s := scope(record("a", number(1)), list(text("e")), text("i"))
	mustTell(t, op(opNothing), s, 1, nothing())
	mustTell(t, expr.Expr{}, s, 1, nothing())
	mustTell(t, no(), s, 1, truth(false))
	mustTell(t, yes(), s, 1, truth(true))
	for _, b := range []uint64{0, minusZero, 1, math.Float64bits(-0.1), plusInf, minusInf, oneNaN} {
		mustTell(t, expr.Expr{Op: opNumber, Bits: b}, s, 1, bits(b))
	}
	for _, x := range []string{"", "a", "\xff\x00", repeat("x", 128)} {
		mustTell(t, str(x), s, 1, text(x))
	}
	mustTell(t, state(), s, 1, s.State)
	mustTell(t, event(), s, 1, s.Event)
	mustTell(t, item(), s, 1, s.Item)
	for _, of := range ofEachKind() {
		for _, v := range of {
			mustTell(t, state(), scope(v), 1, v)
			mustTell(t, event(), scope(nothing(), v), 1, v)
			mustTell(t, item(), scope(nothing(), nothing(), v), 1, v)
		}
	}
}

// TestScopeToItsEdges: what is as great as it may be is taken, and told as it is.
func TestScopeToItsEdges(t *testing.T) {
	for _, v := range []api.Value{deep(8, text(repeat("x", 128))), ofParts(512), numbers(32), wideRecord(32)} {
		mustTell(t, state(), scope(v, v, v), 1, v)
		mustTell(t, event(), scope(v, v, v), 1, v)
		mustTell(t, item(), scope(v, v, v), 1, v)
		mustTell(t, op(opSame, event(), item()), scope(v, v, v), 3, truth(true))
	}
}

// faultyExprs are expressions that may not be, with expr.Check's errors.
func faultyExprs() map[api.Errno][]expr.Expr {
	nots := func(n int) expr.Expr {
		e := yes()
		for range n {
			e = op(opNot, e)
		}
		return e
	}
	eight := func(e expr.Expr) expr.Expr {
		return op(opList, e, e, e, e, e, e, e, e)
	}
	itself := op(opNot, yes())
	itself.Args[0] = itself
	return map[api.Errno][]expr.Expr{
		api.ErrDeep:  {nots(8), nots(30), itself},
		api.ErrCount: {eight(eight(yes()))},
		api.ErrState: {
			op(30), op(-1), op(opAdd, num(1)), op(opNot), op(opState, yes()), op(opList, yes(), yes(), yes(), yes(), yes(), yes(), yes(), yes(), yes()),
			{Op: opNumber, Bits: oneNaN + 1}, {Op: opState, Bits: 1}, {Op: opState, Text: "x"}, str(repeat("x", 129)), get("", state()), get(repeat("k", 17), state()),
			op(opIf, yes(), yes(), op(30)), op(opAnd, no(), op(opNot)), op(opMap, op(opList), op(30)),
		},
	}
}

// faultyValues are values that may not be, with value.Check's errors.
func faultyValues() map[api.Errno][]api.Value {
	return map[api.Errno][]api.Value{
		api.ErrDeep:  {deep(9, nothing()), withinItself()},
		api.ErrCount: {ofParts(513)},
		api.ErrState: {
			{Kind: 6}, {Kind: -1}, {Bits: 1}, {Kind: kindTruth, Bits: 2}, bits(oneNaN + 1), bits(minusZero | oneNaN), text(repeat("x", 129)), {Kind: kindText, Bits: 1}, numbers(33), wideRecord(33),
			record("b a", nothing(), nothing()), record("a a", nothing(), nothing()), record("a"), record("", nothing()), record(repeat("k", 17), nothing()), {Kind: kindRecord, Keys: []string{""}, Items: []api.Value{{}}},
			list(record("k", api.Value{Kind: 9})), deep(8, api.Value{Kind: 9}),
		},
	}
}

func mustFirst(t *testing.T, name string, e expr.Expr, s eval.Scope, fuel int, want api.Errno) {
	t.Helper()
	if v, left, err := eval.Eval(e, s, fuel); !isZero(v) || left != 0 || err != want {
		t.Errorf("P15.1, P4: Eval of %s with fuel %d: %s, %d, %v, want nothing, 0, %v", name, fuel, tell(v), left, err, want)
	}
}

func TestExpressionsThatMayNotBe(t *testing.T) {
	for want, l := range faultyExprs() {
		for _, e := range l {
			for _, fuel := range []int{0, 1, 100, api.MaxFuel} {
				mustFirst(t, "an expression that may not be", e, eval.Scope{}, fuel, want)
			}
			mustFirst(t, "an expression that may not be, in a list", op(opList, yes(), e), eval.Scope{}, 9, want)
		}
	}
}

func TestScopesThatMayNotBe(t *testing.T) {
	good := numbers(2)
	for want, l := range faultyValues() {
		for _, bad := range l {
			for _, e := range []expr.Expr{yes(), state(), event(), item(), op(opNot, num(1)), op(opIf, yes(), yes(), state())} {
				for _, fuel := range []int{0, 1, api.MaxFuel} {
					mustFirst(t, "a State that may not be", e, scope(bad, good, good), fuel, want)
					mustFirst(t, "an Event that may not be", e, scope(good, bad, good), fuel, want)
					mustFirst(t, "an Item that may not be", e, scope(good, good, bad), fuel, want)
				}
			}
		}
	}
}

func TestFuelOutOfItsRange(t *testing.T) {
	for _, e := range []expr.Expr{yes(), state(), op(opNot, num(1)), op(opList)} {
		for _, fuel := range []int{-1, -2, -4096, 4097, 4098, 8192, 1<<32 + 5, -(1 << 32) + 5, math.MaxInt, math.MinInt} {
			mustFirst(t, tellExpr(e), e, eval.Scope{}, fuel, api.ErrRange)
		}
		mustFirst(t, tellExpr(e), e, eval.Scope{}, 0, api.ErrFuel)
	}
	if _, left, err := eval.Eval(yes(), eval.Scope{}, 1); left != 0 || err != api.OK {
		t.Errorf("P15.1: true with fuel 1: %d, %v, want 0, OK", left, err)
	}
	if _, left, err := eval.Eval(yes(), eval.Scope{}, 4096); left != 4095 || err != api.OK {
		t.Errorf("P15.1: true with fuel 4096: %d, %v, want 4095, OK", left, err)
	}
}

// TestFirstError: of several errors that could be told ahead of the reckoning, the first of the chapter.
func TestFirstError(t *testing.T) {
	tooDeep, tooMany, bad := deep(9, nothing()), ofParts(513), api.Value{Kind: 9}
	good := nothing()
	for _, c := range []struct {
		name string
		e    expr.Expr
		s    eval.Scope
		fuel int
		want api.Errno
	}{
		{"all wrong", op(30), scope(tooDeep, tooMany, tooMany), -1, api.ErrState},
		{"a State too deep, an Event that may not be, an Item of too many parts", yes(), scope(tooDeep, bad, tooMany), -1, api.ErrDeep},
		{"a State of too many parts, an Event that may not be, an Item too deep", yes(), scope(tooMany, bad, tooDeep), 4097, api.ErrCount},
		{"a State that may not be, an Event too deep", yes(), scope(bad, tooDeep, good), 1, api.ErrState},
		{"an Event too deep, an Item that may not be", yes(), scope(good, tooDeep, bad), -1, api.ErrDeep},
		{"an Event that may not be, an Item too deep", yes(), scope(good, bad, tooDeep), 1, api.ErrState},
		{"an Item too deep, fuel out of its range", yes(), scope(good, good, tooDeep), -1, api.ErrDeep},
		{"an Item of too many parts, no fuel", yes(), scope(good, good, tooMany), 0, api.ErrCount},
		{"an expression and a State that may not be", op(opNot, op(opNot)), scope(tooDeep), 1, api.ErrState},
		{"an expression that may not be, fuel out of its range", op(-1), scope(good), 4097, api.ErrState},
		{"fuel out of its range, an error in the reckoning", op(opNot, num(1)), scope(good), 4097, api.ErrRange},
		{"no fuel, an error in the reckoning", op(opNot, num(1)), scope(good), 1, api.ErrFuel},
	} {
		mustFirst(t, c.name, c.e, c.s, c.fuel, c.want)
	}
}

// TestFuelOfEachPart: each part of an expression takes one, whatever it is and however great its value.
func TestFuelOfEachPart(t *testing.T) {
	mustTell(t, op(opList, state(), state(), op(opLen, state())), scope(ofParts(200)), 5, list(ofParts(200), ofParts(200), number(7)))
	e := num(0)
	for n := range 7 {
		e = op(opAdd, e, num(1))
		mustTell(t, e, scope(), 3+2*n, number(float64(n+1)))
	}
}

// TestFuelToTheLast: a reckoning that takes all of the greatest fuel, and one that takes one more.
func TestFuelToTheLast(t *testing.T) {
	each := func(parts int) expr.Expr {
		f := op(opList)
		for range parts - 1 {
			f.Args = append(f.Args, item())
		}
		return op(opMap, state(), op(opLen, op(opMap, event(), f)))
	}
	lengths := func(n, of int) api.Value {
		l := list()
		for range n {
			l.Items = append(l.Items, number(float64(of)))
		}
		return l
	}
	mustTell(t, each(7), scope(numbers(23), numbers(25)), 2+23*(1+2+25*7), lengths(23, 25))
	e, s := each(9), scope(numbers(15), numbers(30))
	for _, fuel := range []int{4095, 4096} {
		mustFirst(t, "an expression that takes 4097", e, s, fuel, api.ErrFuel)
	}
}

func TestTrue(t *testing.T) {
	for kind, of := range ofEachKind() {
		for _, v := range of {
			want := api.ErrType
			if kind == kindTruth {
				want = api.OK
			}
			is, err := eval.True(v)
			if is != (kind == kindTruth && v.Bits == 1) || err != want {
				t.Errorf("P15.1: True(%s): %t, %v, want %v", tell(v), is, err, want)
			}
		}
	}
	for _, l := range faultyValues() {
		for _, v := range l {
			if is, err := eval.True(v); is || err != api.ErrType {
				t.Errorf("P15.1, P4: True of a value that may not be, of kind %d: %t, %v, want ErrType", v.Kind, is, err)
			}
		}
	}
	for _, v := range []api.Value{{Kind: 1, Bits: 3}, {Kind: 1, Bits: 1, Text: "x"}, {Kind: 1, Bits: 1, Keys: []string{"k"}}, {Kind: 1, Bits: 1, Items: []api.Value{{}}}, {Kind: 257, Bits: 1}} {
		if is, err := eval.True(v); is || err != api.ErrType {
			t.Errorf("P15.1, P4: True(%s): %t, %v, want ErrType", tell(v), is, err)
		}
	}
	if is, err := eval.True(api.Value{Kind: 1, Bits: 1, Keys: []string{}, Items: []api.Value{}}); !is || err != api.OK {
		t.Errorf("P1: True of a truth with empty lists: %t, %v", is, err)
	}
}
