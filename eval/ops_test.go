package eval_test

import (
	"math"
	"slices"
	"strconv"
	"testing"

	"fanlight/api"
	"fanlight/expr"
)

func TestGet(t *testing.T) {
	r := record("a b c", number(1), text("x"), list(nothing()))
	mustMake(t, opGet, "a", number(1), r)
	mustMake(t, opGet, "b", text("x"), r)
	mustMake(t, opGet, "c", list(nothing()), r)
	for _, key := range []string{"d", "A", "aa", "0", "bb", "\xff", "\x00", repeat("k", 16)} {
		mustRefuse(t, opGet, key, api.ErrNone, r)
		mustRefuse(t, opGet, key, api.ErrNone, record(""))
	}
	long := repeat("k", 16)
	mustMake(t, opGet, long, nothing(), record(long, nothing()))
	mustRefuse(t, opGet, long[1:], api.ErrNone, record(long, nothing()))
	wide := wideRecord(32)
	for i, key := range wide.Keys {
		mustMake(t, opGet, key, number(float64(i)), wide)
	}
	mustTell(t, get("b", get("a", state())), scope(record("a", record("b", text("in")))), 3, text("in"))
}

func TestAt(t *testing.T) {
	l := list(text("a"), text("b"), list(text("c")))
	for i, want := range l.Items {
		mustMake(t, opAt, "", want, l, number(float64(i)))
	}
	mustMake(t, opAt, "", text("a"), l, bits(minusZero))
	for _, f := range []float64{-1, 3, 4, -3, 0.5, -0.5, 1.5, 2.9999999999999996, math.SmallestNonzeroFloat64, 1 << 32, 1 << 53, -(1 << 53), 1<<53 + 2, -(1<<53 + 2), 1 << 63, 1 << 64, math.MaxFloat64, -math.MaxFloat64} {
		mustRefuse(t, opAt, "", api.ErrIndex, l, number(f))
	}
	for _, b := range []uint64{plusInf, minusInf, oneNaN, minusZero | 1, minusZero | 1<<52} {
		mustRefuse(t, opAt, "", api.ErrIndex, l, bits(b))
		mustRefuse(t, opAt, "", api.ErrIndex, list(), bits(b))
	}
	mustRefuse(t, opAt, "", api.ErrIndex, list(), number(0))
	mustRefuse(t, opAt, "", api.ErrIndex, list(), bits(minusZero))
	mustMake(t, opAt, "", number(31), numbers(32), number(31))
	mustRefuse(t, opAt, "", api.ErrIndex, numbers(32), number(32))
	mustRefuse(t, opAt, "", api.ErrType, record("k", nothing()), number(0))
	mustRefuse(t, opAt, "", api.ErrType, text("ab"), number(7.5))
	mustRefuse(t, opAt, "", api.ErrType, list(), text("0"))
}

func TestLen(t *testing.T) {
	for _, n := range []int{0, 1, 2, 31, 32} {
		mustMake(t, opLen, "", number(float64(n)), numbers(n))
		mustMake(t, opLen, "", number(float64(n)), wideRecord(n))
	}
	for _, n := range []int{0, 1, 127, 128} {
		mustMake(t, opLen, "", number(float64(n)), text(repeat("x", n)))
	}
	mustMake(t, opLen, "", number(2), text("é"))
	mustMake(t, opLen, "", number(4), text("\U0001f600"))
	mustMake(t, opLen, "", number(128), text(repeat("é", 64)))
	mustMake(t, opLen, "", number(3), text("\xff\x00\xc3"))
	mustMake(t, opLen, "", number(1), list(numbers(9)))
	mustMake(t, opLen, "", number(2), list(text("abc"), text("d")))
	mustRefuse(t, opLen, "", api.ErrType, nothing())
	mustRefuse(t, opLen, "", api.ErrType, truth(true))
	mustRefuse(t, opLen, "", api.ErrType, number(3))
}

// TestReckoning: two numbers, and their sum, difference, product and quotient, as bits.
func TestReckoning(t *testing.T) {
	f := math.Float64bits
	const tiny, minusTiny = 1, minusZero | 1
	huge := f(math.MaxFloat64)
	for _, c := range []struct {
		a, b                uint64
		sum, less, by, over uint64
	}{
		{f(7), f(2), f(9), f(5), f(14), f(3.5)},
		{f(1), f(3), f(4), f(-2), f(3), 0x3fd5555555555555},
		{f(0.1), f(0.2), 0x3fd3333333333334, f(-0.1), 0x3f947ae147ae147c, f(0.5)},
		{0, 0, 0, 0, 0, oneNaN},
		{0, minusZero, 0, 0, minusZero, oneNaN},
		{minusZero, 0, 0, minusZero, minusZero, oneNaN},
		{minusZero, minusZero, minusZero, 0, 0, oneNaN},
		{f(1), minusZero, f(1), f(1), minusZero, minusInf},
		{f(1), 0, f(1), f(1), 0, plusInf},
		{minusZero, f(5), f(5), f(-5), minusZero, minusZero},
		{f(1), f(1), f(2), 0, f(1), f(1)},
		{plusInf, plusInf, plusInf, oneNaN, plusInf, oneNaN},
		{plusInf, minusInf, oneNaN, plusInf, minusInf, oneNaN},
		{plusInf, 0, plusInf, plusInf, oneNaN, plusInf},
		{f(1), minusInf, minusInf, plusInf, minusInf, minusZero},
		{oneNaN, f(1), oneNaN, oneNaN, oneNaN, oneNaN},
		{f(1), oneNaN, oneNaN, oneNaN, oneNaN, oneNaN},
		{tiny, tiny, 2, 0, 0, f(1)},
		{tiny, minusTiny, 0, 2, minusZero, f(-1)},
		{tiny, f(0.5), f(0.5), f(-0.5), 0, 2},
		{minusTiny, f(4), f(4), f(-4), minusZero | 4, minusZero},
		{1<<52 - 1, tiny, 1 << 52, 1<<52 - 2, 0, f(1<<52 - 1)},
		{huge, huge, plusInf, 0, plusInf, f(1)},
		{huge, f(-1), huge, huge, huge | minusZero, huge | minusZero},
		{f(1 << 53), f(1), f(1 << 53), f(1<<53 - 1), f(1 << 53), f(1 << 53)},
	} {
		a, b := bits(c.a), bits(c.b)
		mustMake(t, opAdd, "", bits(c.sum), a, b)
		mustMake(t, opSub, "", bits(c.less), a, b)
		mustMake(t, opMul, "", bits(c.by), a, b)
		mustMake(t, opDiv, "", bits(c.over), a, b)
	}
}

func TestFloor(t *testing.T) {
	f := math.Float64bits
	for _, c := range [][2]uint64{
		{f(2), f(2)}, {f(2.7), f(2)}, {f(-2.2), f(-3)}, {f(-0.5), f(-1)}, {f(0.5), 0}, {0, 0}, {minusZero, minusZero}, {1, 0}, {minusZero | 1, f(-1)},
		{plusInf, plusInf}, {minusInf, minusInf}, {oneNaN, oneNaN}, {f(1<<52 + 0.5), f(1 << 52)}, {f(math.MaxFloat64), f(math.MaxFloat64)},
	} {
		mustMake(t, opFloor, "", bits(c[1]), bits(c[0]))
	}
}

func TestSameAndLess(t *testing.T) {
	rising := [][]api.Value{
		{nothing()},
		{truth(false), truth(true)},
		{bits(minusInf), number(-1), bits(minusZero | 1), bits(minusZero), number(0), bits(1), number(1), bits(plusInf), bits(oneNaN)},
		{text(""), text("\x00"), text("A"), text("a"), text("aa"), text("b"), text("\xff")},
		{list(), list(nothing()), list(nothing(), nothing()), list(truth(true)), list(number(2)), list(number(2), text("a")), list(number(10)), list(list())},
		{record(""), record("a", number(2)), record("a", text("")), record("a b", number(1), number(1)), record("b", number(0))},
	}
	for k, as := range rising {
		for i, a := range as {
			for l, bs := range rising {
				for j, b := range bs {
					mustMake(t, opSame, "", truth(k == l && i == j), a, b)
					if k == l {
						mustMake(t, opLess, "", truth(i < j), a, b)
					} else {
						mustRefuse(t, opLess, "", api.ErrType, a, b)
					}
				}
			}
		}
	}
}

func TestAndOr(t *testing.T) {
	for _, c := range []struct {
		op      int
		a, b    bool
		want    bool
		decided bool
	}{
		{opAnd, false, false, false, true}, {opAnd, false, true, false, true}, {opAnd, true, false, false, false}, {opAnd, true, true, true, false},
		{opOr, true, true, true, true}, {opOr, true, false, true, true}, {opOr, false, true, true, false}, {opOr, false, false, false, false},
	} {
		s := scope(truth(c.a), truth(c.b))
		cost := 3
		if c.decided {
			cost = 2
		}
		mustTell(t, op(c.op, state(), event()), s, cost, truth(c.want))
		for _, of := range ofEachKind() {
			for _, v := range of {
				if e := op(c.op, state(), item()); c.decided {
					mustTell(t, e, scope(truth(c.a), nothing(), v), 2, truth(c.want))
				} else if v.Kind == kindTruth {
					mustTell(t, e, scope(truth(c.a), nothing(), v), 3, v)
				} else {
					mustFail(t, e, scope(truth(c.a), nothing(), v), 3, api.ErrType)
				}
			}
		}
		for _, f := range failings() {
			if e := op(c.op, state(), f.e); c.decided {
				mustTell(t, e, s, 2, truth(c.want))
			} else {
				mustFail(t, e, s, 2+f.parts, f.err)
			}
		}
	}
}

// TestAndOrOfAFirstThatIsNoTruth: what is behind it is not asked.
func TestAndOrOfAFirstThatIsNoTruth(t *testing.T) {
	for kind, of := range ofEachKind() {
		for _, v := range of {
			for _, n := range []int{opAnd, opOr} {
				if kind == kindTruth {
					continue
				}
				mustFail(t, op(n, state(), event()), scope(v, truth(true)), 2, api.ErrType)
				for _, f := range failings() {
					mustFail(t, op(n, state(), f.e), scope(v), 2, api.ErrType)
				}
			}
		}
	}
}

func TestNot(t *testing.T) {
	mustMake(t, opNot, "", truth(true), truth(false))
	mustMake(t, opNot, "", truth(false), truth(true))
	for _, v := range []api.Value{nothing(), number(0), number(1), text(""), list(), record("")} {
		mustRefuse(t, opNot, "", api.ErrType, v)
	}
}

// TestIf: of the two behind the truth only the one that is meant is reckoned.
func TestIf(t *testing.T) {
	for _, of := range ofEachKind() {
		for _, v := range of {
			mustTell(t, op(opIf, yes(), state(), event()), scope(v, text("else")), 3, v)
			mustTell(t, op(opIf, no(), event(), state()), scope(v, text("then")), 3, v)
			if e, s := op(opIf, state(), event(), item()), scope(v, text("then"), text("else")); v.Kind != kindTruth {
				mustFail(t, e, s, 2, api.ErrType)
			} else if v.Bits == 1 {
				mustTell(t, e, s, 3, text("then"))
			} else {
				mustTell(t, e, s, 3, text("else"))
			}
		}
	}
	for _, f := range failings() {
		mustTell(t, op(opIf, yes(), num(1), f.e), scope(), 3, number(1))
		mustTell(t, op(opIf, no(), f.e, num(1)), scope(), 3, number(1))
		mustFail(t, op(opIf, yes(), f.e, num(1)), scope(), 2+f.parts, f.err)
		mustFail(t, op(opIf, no(), num(1), f.e), scope(), 2+f.parts, f.err)
		mustFail(t, op(opIf, f.e, num(1), num(1)), scope(), 1+f.parts, f.err)
		mustFail(t, op(opIf, num(1), f.e, f.e), scope(), 2, api.ErrType)
	}
}

func TestJoin(t *testing.T) {
	mustMake(t, opJoin, "", text("ab"), text("a"), text("b"))
	mustMake(t, opJoin, "", text("ba"), text("b"), text("a"))
	mustMake(t, opJoin, "", text(""), text(""), text(""))
	mustMake(t, opJoin, "", text("\xc3\xa9"), text("\xc3"), text("\xa9"))
	for n := range 129 {
		mustMake(t, opJoin, "", text(repeat("x", n)+repeat("y", 128-n)), text(repeat("x", n)), text(repeat("y", 128-n)))
		if n > 0 {
			mustRefuse(t, opJoin, "", api.ErrBig, text(repeat("x", n)), text(repeat("y", 129-n)))
		}
	}
	mustMake(t, opJoin, "", text(repeat("é", 64)), text(repeat("é", 32)), text(repeat("é", 32)))
	mustRefuse(t, opJoin, "", api.ErrBig, text(repeat("é", 64)), text("x"))
	mustRefuse(t, opJoin, "", api.ErrBig, text(repeat("x", 128)), text(repeat("x", 128)))
	mustRefuse(t, opJoin, "", api.ErrType, text(repeat("x", 128)), list(text("x")))
}

func TestListOfArgs(t *testing.T) {
	var args []expr.Expr
	want := list()
	for n := range 9 {
		mustTell(t, op(opList, args...), scope(), 1+n, want)
		args = append(args, num(float64(n)))
		want.Items = append(slices.Clone(want.Items), number(float64(n)))
	}
	mustTell(t, op(opList, str("a"), op(opList), yes(), op(opNothing)), scope(), 5, list(text("a"), list(), truth(true), nothing()))
}

func TestPush(t *testing.T) {
	for _, of := range ofEachKind() {
		for _, v := range of {
			mustMake(t, opPush, "", list(v), list(), v)
			mustMake(t, opPush, "", list(text("a"), nothing(), v), list(text("a"), nothing()), v)
			if v.Kind != kindList {
				mustRefuse(t, opPush, "", api.ErrType, v, nothing())
				mustRefuse(t, opPush, "", api.ErrType, v, list())
			}
		}
	}
	full := numbers(31)
	full.Items = append(full.Items, text("x"))
	mustMake(t, opPush, "", full, numbers(31), text("x"))
	mustRefuse(t, opPush, "", api.ErrBig, numbers(32), text("x"))
	mustRefuse(t, opPush, "", api.ErrBig, numbers(32), nothing())
}

func TestWith(t *testing.T) {
	abc := record("b d f", number(1), number(2), number(3))
	x := text("x")
	mustMake(t, opWith, "b", record("b d f", x, number(2), number(3)), abc, x)
	mustMake(t, opWith, "d", record("b d f", number(1), x, number(3)), abc, x)
	mustMake(t, opWith, "f", record("b d f", number(1), number(2), x), abc, x)
	mustMake(t, opWith, "a", record("a b d f", x, number(1), number(2), number(3)), abc, x)
	mustMake(t, opWith, "c", record("b c d f", number(1), x, number(2), number(3)), abc, x)
	mustMake(t, opWith, "dd", record("b d dd f", number(1), number(2), x, number(3)), abc, x)
	mustMake(t, opWith, "\xff", record("b d f \xff", number(1), number(2), number(3), x), abc, x)
	mustMake(t, opWith, repeat("k", 16), record(repeat("k", 16), abc), record(""), abc)
	for _, of := range ofEachKind() {
		for _, v := range of {
			mustMake(t, opWith, "k", record("k", v), record(""), v)
			mustMake(t, opWith, "k", record("k", v), record("k", abc), v)
			if v.Kind != kindRecord {
				mustRefuse(t, opWith, "k", api.ErrType, v, record(""))
			}
		}
	}
}

// TestWithToTheLastKey: a 32nd key is taken, a 33rd is not, one that is there always.
func TestWithToTheLastKey(t *testing.T) {
	for _, n := range []int{31, 32} {
		full := wideRecord(n)
		for at, key := range full.Keys {
			want := wideRecord(n)
			want.Items[at] = text("x")
			mustMake(t, opWith, key, want, full, text("x"))
		}
		for at := range n + 1 {
			key := "k"
			if at > 0 {
				key = full.Keys[at-1] + "x"
			}
			want := wideRecord(n)
			want.Keys, want.Items = slices.Insert(want.Keys, at, key), slices.Insert(want.Items, at, text("x"))
			if n == 31 {
				mustMake(t, opWith, key, want, full, text("x"))
			} else {
				mustRefuse(t, opWith, key, api.ErrBig, full, text("x"))
			}
		}
	}
}

func TestDigits(t *testing.T) {
	for _, n := range []int{0, 1, 2, 9, 10, 11, 99, 100, 101, 12345, 1000000, 4294967296, 1<<53 - 1, 1 << 53, 9007199254740990, 1234567890123456, 1000000000000000, 999999999999999} {
		mustMake(t, opDigits, "", text(strconv.Itoa(n)), number(float64(n)))
		mustMake(t, opDigits, "", text(strconv.Itoa(-n)), number(-float64(n)))
	}
	mustMake(t, opDigits, "", text("0"), bits(minusZero))
	mustMake(t, opDigits, "", text("9007199254740992"), number(1<<53))
	mustMake(t, opDigits, "", text("-9007199254740992"), number(-(1 << 53)))
	for _, f := range []float64{1<<53 + 2, -(1<<53 + 2), 1 << 62, 1 << 63, 1 << 64, -(1 << 63), 0.5, -0.5, 1.5, 1e15 + 0.5, math.MaxFloat64, -math.MaxFloat64} {
		mustRefuse(t, opDigits, "", api.ErrWhole, number(f))
	}
	for _, b := range []uint64{1, minusZero | 1, 1 << 52, plusInf, minusInf, oneNaN} {
		mustRefuse(t, opDigits, "", api.ErrWhole, bits(b))
	}
}

// kindsOfArgs are which kinds each Arg of an op may have, of ops whose Args are all reckoned; nil: any.
func kindsOfArgs() map[int][][]int {
	two := func(kind int) [][]int { return [][]int{{kind}, {kind}} }
	return map[int][][]int{
		opGet: {{kindRecord}}, opAt: {{kindList}, {kindNumber}}, opLen: {{kindText, kindList, kindRecord}},
		opAdd: two(kindNumber), opSub: two(kindNumber), opMul: two(kindNumber), opDiv: two(kindNumber), opFloor: {{kindNumber}},
		opSame: {nil, nil}, opNot: {{kindTruth}}, opJoin: two(kindText), opList: {nil, nil, nil}, opPush: {{kindList}, nil}, opWith: {{kindRecord}, nil}, opDigits: {{kindNumber}},
	}
}

// TestKindsOfArgs: ErrType just where one of the values is of a kind that the op does not take.
func TestKindsOfArgs(t *testing.T) {
	for n, kinds := range kindsOfArgs() {
		each := func(values []api.Value, fits bool) {
			e, s := keyed(n, keyOf(n), asked(len(values))...), scope(values...)
			if !fits {
				mustFail(t, e, s, 1+len(values), api.ErrType)
			} else if _, _, err := full(e, s); err == api.ErrType {
				t.Errorf("P15.1: Eval(%s; %s): ErrType", tellExpr(e), tellScope(s))
			}
		}
		eachOfKinds(kinds, nil, true, each)
	}
}

// eachOfKinds hands each choice of values for the Args out, and whether their kinds fit.
func eachOfKinds(kinds [][]int, chosen []api.Value, fits bool, each func([]api.Value, bool)) {
	if len(chosen) == len(kinds) {
		each(chosen, fits)
		return
	}
	may := kinds[len(chosen)]
	for kind, of := range ofEachKind() {
		for _, v := range of {
			eachOfKinds(kinds, append(chosen[:len(chosen):len(chosen)], v), fits && (may == nil || slices.Contains(may, kind)), each)
		}
	}
}

// TestErrorsOfArgs: Args are reckoned in order, ahead of what the op itself has to say of any of them.
func TestErrorsOfArgs(t *testing.T) {
	for n, kinds := range kindsOfArgs() {
		for at := range kinds {
			for _, f := range failings() {
				for _, behind := range failings() {
					for _, of := range ofEachKind() {
						args := make([]expr.Expr, len(kinds))
						for i := range args {
							args[i] = state()
							if i > at {
								args[i] = behind.e
							}
						}
						args[at] = f.e
						mustFail(t, keyed(n, keyOf(n), args...), scope(of[0]), 1+at+f.parts, f.err)
					}
				}
			}
		}
	}
	for _, f := range failings() {
		for _, n := range []int{opAnd, opOr} {
			mustFail(t, op(n, f.e, yes()), scope(), 1+f.parts, f.err)
		}
		mustFail(t, op(opLess, f.e, yes()), scope(), 1+f.parts, f.err)
		mustFail(t, op(opLess, num(1), f.e), scope(), 2+f.parts, f.err)
	}
}
