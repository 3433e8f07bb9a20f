package expr_test

import (
	"math"
	"testing"

	"fanlight/api"
	"fanlight/expr"
)

func mustCheck(t *testing.T, name string, e expr.Expr, want api.Errno) {
	t.Helper()
	if err := expr.Check(e); err != want {
		t.Errorf("P14.1: Check of %s: %v, want %v", name, err, want)
	}
}

func TestCheckLetsPassWhatMayBe(t *testing.T) {
	for _, e := range append(may(), some(500)...) {
		mustCheck(t, tell(e), e, api.OK)
	}
	mustCheck(t, "the zero expression", expr.Expr{}, api.OK)
}

// TestEachOpHasItsArgs: as many as the chapter tells, none fewer, none more.
func TestEachOpHasItsArgs(t *testing.T) {
	for n, own := range argCounts() {
		for args := range 20 {
			want := api.ErrState
			if args == own || own < 0 && args <= maxList {
				want = api.OK
			}
			mustCheck(t, tell(plain(n, args)), plain(n, args), want)
		}
	}
	mustCheck(t, "a list of 2000", wide(2000), api.ErrState)
	mustCheck(t, "an add of 2000", plain(opAdd, 2000), api.ErrState)
}

func TestOpsThatAreNone(t *testing.T) {
	for _, n := range strayOps() {
		for args := range 4 {
			mustCheck(t, tell(plain(n, args)), plain(n, args), api.ErrState)
		}
		mustCheck(t, "a list with op "+tell(op(n)), list(leaf(), op(n)), api.ErrState)
	}
}

func TestBitsOfANumber(t *testing.T) {
	for _, b := range []uint64{
		0, minusZero, 1, minusZero | 1, 1<<52 - 1, 1 << 52, math.Float64bits(1), math.Float64bits(-0.1), math.Float64bits(math.MaxFloat64), plusInf - 1, minusInf - 1, plusInf, minusInf, oneNaN,
	} {
		mustCheck(t, tell(bits(b)), bits(b), api.OK)
	}
	for _, b := range otherNaNs() {
		mustCheck(t, tell(bits(b)), bits(b), api.ErrState)
		mustCheck(t, "an add of "+tell(bits(b)), op(opAdd, leaf(), bits(b)), api.ErrState)
	}
}

// otherNaNs are bits that float.Canon changes.
func otherNaNs() []uint64 {
	return []uint64{plusInf + 1, oneNaN - 1, oneNaN + 1, oneNaN | 1<<50, minusZero - 1, minusInf + 1, minusZero | oneNaN, minusZero | oneNaN | 1, math.MaxUint64}
}

// TestBitsOfOthers: no op but a number has Bits, not even such as Canon leaves.
func TestBitsOfOthers(t *testing.T) {
	for n := range opLast + 1 {
		if n == opNumber {
			continue
		}
		for _, b := range []uint64{1, 1 << 32, minusZero, oneNaN, plusInf + 1, math.Float64bits(1), math.MaxUint64} {
			e := plain(n, argsOf(n))
			e.Bits = b
			mustCheck(t, tell(e), e, api.ErrState)
		}
	}
}

func TestTexts(t *testing.T) {
	lengths := func(e expr.Expr, least, most int) {
		t.Helper()
		for _, n := range []int{0, 1, 2, 15, 16, 17, 32, 127, 128, 129, 255, 256, 257, 1 << 16, 1<<16 + 1} {
			want := api.ErrState
			if least <= n && n <= most {
				want = api.OK
			}
			e.Text = repeat("k", n)
			mustCheck(t, tell(e), e, want)
		}
	}
	for n := range opLast + 1 {
		switch e := plain(n, argsOf(n)); n {
		case opText:
			lengths(e, 0, 128)
		case opGet, opWith:
			lengths(e, 1, 16)
		default:
			lengths(e, 0, 0)
		}
	}
}

// TestTextsAreOctets: lengths are those of octets, not of runes, and any octets will do.
func TestTextsAreOctets(t *testing.T) {
	for _, s := range []string{"\x00", "\xff", "\n", "é", "\xc3"} {
		mustCheck(t, tell(text(s)), text(s), api.OK)
		mustCheck(t, tell(get(s, leaf())), get(s, leaf()), api.OK)
		mustCheck(t, tell(with(s, leaf(), leaf())), with(s, leaf(), leaf()), api.OK)
	}
	mustCheck(t, "a text of 128 octets in 64 runes", text(repeat("é", 64)), api.OK)
	mustCheck(t, "a text of 129 octets in 65 runes", text(repeat("é", 64)+"x"), api.ErrState)
	mustCheck(t, "a key of 16 octets in 8 runes", get(repeat("é", 8), leaf()), api.OK)
	mustCheck(t, "a key of 17 octets in 9 runes", get(repeat("é", 8)+"x", leaf()), api.ErrState)
	mustCheck(t, "with a key of 17 octets in 9 runes", with(repeat("é", 8)+"x", leaf(), leaf()), api.ErrState)
}

// TestDepth: 8 may be within each other, 9 may not, by whichever op and at whichever of its places.
func TestDepth(t *testing.T) {
	mustCheck(t, "8 deep", deep(8, leaf()), api.OK)
	mustCheck(t, "9 deep", deep(9, leaf()), api.ErrDeep)
	mustCheck(t, "20 deep", deep(20, leaf()), api.ErrDeep)
	mustCheck(t, "8 deep at the last places", deepLast(8, leaf()), api.OK)
	mustCheck(t, "9 deep at the last places", deepLast(9, leaf()), api.ErrDeep)
	for n, args := range argCounts() {
		if args < 0 {
			args = maxList
		}
		for at := range args {
			e := plain(n, args)
			e.Args[at] = deep(7, wide(0))
			mustCheck(t, "8 deep by "+tell(e), e, api.OK)
			e.Args[at] = deep(8, wide(0))
			mustCheck(t, "9 deep by "+tell(e), e, api.ErrDeep)
			e.Args[at] = deep(7, wide(1))
			mustCheck(t, "9 deep by "+tell(e), e, api.ErrDeep)
		}
	}
}

func TestParts(t *testing.T) {
	mustCheck(t, "64 parts", ofParts(64), api.OK)
	mustCheck(t, "65 parts", behindAll(ofParts(64), leaf()), api.ErrCount)
	mustCheck(t, "64 parts", behindAll(ofParts(62), op(opNot, leaf())), api.OK)
	mustCheck(t, "65 parts", behindAll(ofParts(63), op(opNot, leaf())), api.ErrCount)
	mustCheck(t, "64 parts, 8 deep", behindAll(ofParts(57), deep(7, leaf())), api.OK)
	mustCheck(t, "65 parts, 8 deep", behindAll(ofParts(58), deep(7, leaf())), api.ErrCount)
	full := list()
	for range maxList {
		full.Args = append(full.Args, wide(maxList))
	}
	mustCheck(t, "73 parts", full, api.ErrCount)
	same := op(opAdd, leaf(), leaf())
	for range 5 {
		same = op(opAdd, same, same)
	}
	mustCheck(t, "127 parts by adds that share", same, api.ErrCount)
	mustCheck(t, "63 parts by adds that share", same.Args[0], api.OK)
}

// mayNot are expressions with one fault each, which Check tells.
func mayNot() map[string]expr.Expr {
	return map[string]expr.Expr{
		"op -1": op(-1), "op 30": op(30), "op 30 with Args": op(30, leaf()),
		"not of none": op(opNot), "not of two": op(opNot, leaf(), leaf()), "a state with an Arg": op(opState, leaf()), "if of two": op(opIf, leaf(), leaf()), "list of 9": wide(9),
		"another NaN": bits(oneNaN + 1), "Bits of a state": {Op: opState, Bits: 1}, "Bits of a text": {Op: opText, Bits: 1, Text: "a"}, "Bits of a list": {Op: opList, Bits: 1}, "Bits of nothing": {Bits: 1},
		"a text of 129": text(repeat("x", 129)), "get of no key": get("", leaf()), "get of a key of 17": get(repeat("k", 17), leaf()), "with no key": with("", leaf(), leaf()), "with a key of 17": with(repeat("k", 17), leaf(), leaf()),
		"Text of a number": {Op: opNumber, Text: "1"}, "Text of a state": {Op: opState, Text: "k"}, "Text of an add": {Op: opAdd, Text: "k", Args: []expr.Expr{leaf(), leaf()}}, "Text of nothing": {Text: "k"}, "Text of a list": {Op: opList, Text: "k"},
	}
}

// TestCheckRefusesParts: what may not be by itself may not be as a part, wherever it stands.
func TestCheckRefusesParts(t *testing.T) {
	for name, bad := range mayNot() {
		for _, e := range []expr.Expr{bad, op(opNot, bad), op(opIf, leaf(), leaf(), bad), op(opIf, bad, leaf(), leaf()), list(list(), wide(3), bad), get("k", bad), with("k", leaf(), bad), deep(8, bad), deepLast(8, bad), behindAll(ofParts(63), bad)} {
			mustCheck(t, name+" within "+tell(e), e, api.ErrState)
		}
	}
}

// fault is an expression of which more than one fault could be told, and the one that is.
type fault struct {
	name string
	e    expr.Expr
	want api.Errno
}

func twoFaults() []fault {
	bad, tooDeep := op(30), deep(9, leaf())
	fat := wide(9)
	fat.Args[0] = tooDeep
	hollow := op(opNot)
	hollow.Args = []expr.Expr{tooDeep, bad}
	stray := deep(9, leaf())
	stray.Bits = 1
	named := deep(9, leaf())
	named.Text = "x"
	unkeyed := get("", tooDeep)
	return []fault{
		{"the ninth, which may not be", deep(9, bad), api.ErrDeep},
		{"the ninth, which has another number of Args", deep(9, plain(opAdd, 1)), api.ErrDeep},
		{"the eighth, which may not be", deep(8, bad), api.ErrState},
		{"the eighth, with a ninth in it, which may not be", deep(8, expr.Expr{Op: opNot, Bits: 1, Args: []expr.Expr{leaf()}}), api.ErrState},
		{"the eighth, with a ninth too many", deep(8, op(opState, leaf())), api.ErrState},
		{"the 65th, which may not be", behindAll(ofParts(64), bad), api.ErrCount},
		{"the 64th, which may not be, then a 65th", behindAll(behindAll(ofParts(55), behindAll(wide(7), bad)), leaf()), api.ErrState},
		{"a 65th, then one that may not be", behindAll(behindAll(ofParts(55), wide(8)), list(leaf(), bad)), api.ErrCount},
		{"the 65th, which is the ninth", behindAll(ofParts(57), deep(8, leaf())), api.ErrDeep},
		{"the 65th, which is the ninth and may not be", behindAll(ofParts(57), deep(8, bad)), api.ErrDeep},
		{"the 64th, which is the ninth", behindAll(ofParts(56), deep(8, leaf())), api.ErrDeep},
		{"the 65th, in which is the ninth", behindAll(ofParts(58), deep(8, leaf())), api.ErrCount},
		{"a part that may not be, then one too deep", list(bad, tooDeep), api.ErrState},
		{"one too deep, then a part that may not be", list(tooDeep, bad), api.ErrDeep},
		{"one too deep, then its parent's brother that may not be", list(deep(8, leaf()), bad, leaf()), api.ErrDeep},
		{"a part that may not be, then too many", list(bad, ofParts(64)), api.ErrState},
		{"too many, then a part that may not be", list(ofParts(64), bad), api.ErrCount},
		{"too many, then one too deep", list(ofParts(64), tooDeep), api.ErrCount},
		{"one too deep, then too many", list(tooDeep, ofParts(64)), api.ErrDeep},
		{"nine Args, the first too deep", fat, api.ErrState},
		{"an Arg too many, the first too deep", hollow, api.ErrState},
		{"Bits, then one too deep", stray, api.ErrState},
		{"Text, then one too deep", named, api.ErrState},
		{"no key, then one too deep", unkeyed, api.ErrState},
		{"an op that is none, then one too deep", op(30, tooDeep), api.ErrState},
		{"an op that is none, then too many", op(-1, ofParts(64), ofParts(64)), api.ErrState},
		{"an Arg too few, then too many", op(opIf, ofParts(64)), api.ErrState},
		{"a not within itself", withinItself(opNot, 1), api.ErrDeep},
		{"a list within itself", withinItself(opList, 1), api.ErrDeep},
		{"a list 8 times within itself", withinItself(opList, 8), api.ErrDeep},
		{"a list 9 times within itself", withinItself(opList, 9), api.ErrState},
		{"an if within itself", withinItself(opIf, 3), api.ErrDeep},
		{"an op that is none within itself", withinItself(30, 2), api.ErrState},
	}
}

func TestCheckTellsTheFirst(t *testing.T) {
	for _, c := range twoFaults() {
		mustCheck(t, c.name, c.e, c.want)
	}
}

func TestSize(t *testing.T) {
	for _, c := range []struct {
		e     expr.Expr
		parts int
		depth int
	}{
		{expr.Expr{}, 1, 1},
		{leaf(), 1, 1},
		{number(2), 1, 1},
		{text(repeat("x", 128)), 1, 1},
		{list(), 1, 1},
		{op(opNot, leaf()), 2, 2},
		{op(opAdd, leaf(), leaf()), 3, 2},
		{op(opIf, leaf(), leaf(), leaf()), 4, 2},
		{with("k", leaf(), list()), 3, 2},
		{list(list(list()), leaf()), 4, 3},
		{list(leaf(), leaf(), op(opAdd, leaf(), get("k", leaf()))), 7, 4},
		{list(deep(5, leaf()), deep(3, leaf())), 9, 6},
		{list(deep(3, leaf()), deep(5, leaf())), 9, 6},
		{wide(8), 9, 2},
		{deep(7, leaf()), 7, 7},
		{deep(8, leaf()), 8, 8},
		{deepLast(8, list()), 22, 8},
		{ofParts(63), 63, 3},
		{ofParts(64), 64, 3},
		{behindAll(ofParts(57), deep(7, leaf())), 64, 8},
	} {
		if n, d, err := expr.Size(c.e); n != c.parts || d != c.depth || err != api.OK {
			t.Errorf("P14.1: Size(%s): %d, %d, %v, want %d, %d, OK", tell(c.e), n, d, err, c.parts, c.depth)
		}
	}
	for _, e := range append(may(), some(500)...) {
		all, depth := places(e), 0
		for _, at := range all {
			depth = max(depth, at.depth)
		}
		if n, d, err := expr.Size(e); n != len(all) || d != depth || err != api.OK {
			t.Errorf("P14.1: Size(%s): %d, %d, %v, want %d, %d, OK", tell(e), n, d, err, len(all), depth)
		}
	}
}

func TestSizeOfWhatMayNotBe(t *testing.T) {
	refused := append(twoFaults(), fault{"9 deep", deep(9, leaf()), api.ErrDeep}, fault{"9 deep at the last", list(wide(8), deep(8, leaf())), api.ErrDeep}, fault{"65 parts", behindAll(ofParts(64), leaf()), api.ErrCount})
	for name, bad := range mayNot() {
		refused = append(refused, fault{name, bad, api.ErrState}, fault{name + " at the last", list(wide(3), bad), api.ErrState})
	}
	for _, c := range refused {
		if n, d, err := expr.Size(c.e); n != 0 || d != 0 || err != c.want {
			t.Errorf("P14.1, P4: Size of %s: %d, %d, %v, want 0, 0, %v", c.name, n, d, err, c.want)
		}
	}
}
