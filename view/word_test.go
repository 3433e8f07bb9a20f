package view_test

import (
	"math"
	"math/big"
	"math/rand"
	"strconv"
	"testing"

	"fanlight/api"
	"fanlight/expr"
	"fanlight/value"
	"fanlight/view"
)

// mustWord holds what Word tells of v, and that Render writes it so, in a text and as an attribute.
func mustWord(t *testing.T, v api.Value, want string) {
	t.Helper()
	if s, err := view.Word(v); s != want || err != api.OK {
		t.Errorf("P17.1: Word(%s): %q, %v, want %q", tell(v), s, err, want)
	}
	x := with("p", "a b", state(), state())
	x.Kids = []view.Template{txt(state())}
	mustMake(t, "the state's word", x, v, api.Tree{Tag: "p", Attrs: []api.Attr{{Name: "a", Value: want}, {Name: "b", Value: want}}, Kids: []api.Tree{{Text: want}}})
}

// mustHaveNoWord holds that Word tells that error alone, and Render too.
func mustHaveNoWord(t *testing.T, v api.Value, want api.Errno) {
	t.Helper()
	if s, err := view.Word(v); s != "" || err != want {
		t.Errorf("P17.1, P4: Word(%s): %q, %v, want error %v and no word", tell(v), s, err, want)
	}
	mustRefuse(t, "a text of "+tell(v), el("p", txt(state())), v, 99, want)
	mustRefuse(t, "an attribute of "+tell(v), with("p", "a", state()), v, 99, want)
	mustRefuse(t, "a Key of "+tell(v), keyed("p", state()), v, 99, want)
}

func TestWordsOfOtherKinds(t *testing.T) {
	mustWord(t, nothing(), "")
	mustWord(t, truth(false), "false")
	mustWord(t, truth(true), "true")
	for _, kind := range []int{kindList, kindRecord} {
		for _, v := range ofEachKind()[kind] {
			mustHaveNoWord(t, v, api.ErrType)
		}
	}
	for _, v := range []api.Value{deep(8, nothing()), ofParts(512), numbers(32), wideRecord(32), list(text("x")), record("k", text("x"))} {
		mustHaveNoWord(t, v, api.ErrType)
	}
}

// TestWordsOfWhatMayNotBe: value.Check's error, also where the kind has a word.
func TestWordsOfWhatMayNotBe(t *testing.T) {
	for _, bad := range faultyValuesAndLoop() {
		mustHaveNoWord(t, bad.v, bad.err)
	}
	for _, bits := range []uint64{2, 3, 256, 1 << 63, math.MaxUint64} {
		mustHaveNoWord(t, api.Value{Kind: kindTruth, Bits: bits}, api.ErrState)
	}
	for _, kind := range []int{7, 100, -1 << 63, 1<<63 - 1} {
		mustHaveNoWord(t, api.Value{Kind: kind}, api.ErrState)
	}
	for _, bits := range []uint64{0x7ff0000000000001, 0x7fffffffffffffff, 0xfff8000000000000, 0xffffffffffffffff} {
		mustHaveNoWord(t, api.Value{Kind: kindNumber, Bits: bits}, api.ErrState)
	}
}

func TestWordsOfTexts(t *testing.T) {
	for n := range 129 {
		mustWord(t, text(repeat("x", n)), repeat("x", n))
	}
	for octet := range 256 {
		s := string([]byte{byte(octet)})
		mustWord(t, text(s), s)
		mustWord(t, text("<"+s+"&"), "<"+s+"&")
	}
	for _, s := range []string{"true", "false", "0", "-1", "é", "\xff\xfe", repeat("é", 64), "a b", " ", "<p>", `"`} {
		mustWord(t, text(s), s)
	}
	for _, n := range []int{129, 130, 256, 1000} {
		mustHaveNoWord(t, text(repeat("x", n)), api.ErrState)
	}
}

func TestWordsOfNumbers(t *testing.T) {
	for n := -2000; n <= 2000; n++ {
		mustWord(t, number(float64(n)), strconv.Itoa(n))
	}
	for _, c := range []struct {
		f    float64
		want string
	}{
		{0, "0"}, {math.Copysign(0, -1), "0"}, {1, "1"}, {-1, "-1"},
		{1 << 53, "9007199254740992"}, {-1 << 53, "-9007199254740992"},
		{1<<53 - 1, "9007199254740991"}, {1 - 1<<53, "-9007199254740991"},
		{1 << 31, "2147483648"}, {-1 << 31, "-2147483648"}, {1 << 32, "4294967296"},
		{1e15, "1000000000000000"}, {-1e15, "-1000000000000000"}, {1e6, "1000000"}, {123456789012345, "123456789012345"},
	} {
		mustWord(t, number(c.f), c.want)
	}
	for _, f := range []float64{
		0.5, -0.5, 1.5, -1.5, 0.1, 1e-9, 5e-324, -5e-324, math.Nextafter(1, 2), math.Nextafter(1, 0), 1<<52 - 0.5, 0.5 - 1<<52,
		1<<53 + 2, -1<<53 - 2, 1 << 54, 1 << 62, 1 << 63, -1 << 63, 1 << 64, 1e30, -1e30, math.MaxFloat64, -math.MaxFloat64,
		math.Inf(1), math.Inf(-1),
	} {
		mustHaveNoWord(t, number(f), api.ErrType)
	}
	mustHaveNoWord(t, api.Value{Kind: kindNumber, Bits: 0x7ff8000000000000}, api.ErrType)
}

// slowWord works with exact fractions.
func slowWord(v api.Value) (string, api.Errno) {
	if err := value.Check(v); err != api.OK {
		return "", err
	}
	switch v.Kind {
	case kindNothing, kindText:
		return v.Text, api.OK
	case kindTruth:
		return strconv.FormatBool(v.Bits == 1), api.OK
	case kindNumber:
		f := math.Float64frombits(v.Bits)
		if math.IsNaN(f) || math.IsInf(f, 0) {
			return "", api.ErrType
		}
		exact := new(big.Rat).SetFloat64(f)
		bound := new(big.Int).Lsh(big.NewInt(1), 53)
		if exact.IsInt() && exact.Num().CmpAbs(bound) <= 0 {
			return exact.Num().String(), api.OK
		}
	}
	return "", api.ErrType
}

// TestWordsByChance: numbers of all sizes, whole ones and others.
func TestWordsByChance(t *testing.T) {
	r := rand.New(rand.NewSource(171))
	told := map[api.Errno]int{}
	for range 20000 {
		v := api.Value{Kind: kindNumber, Bits: r.Uint64()}
		switch r.Intn(4) {
		case 0:
			v = number(float64(r.Int63n(1<<54) - 1<<53))
		case 1:
			v = number(math.Ldexp(float64(r.Int63n(1<<53)), r.Intn(60)-55))
		case 2:
			v = number(float64(int64(r.Uint64()) >> r.Intn(64)))
		}
		want, werr := slowWord(v)
		told[werr]++
		if s, err := view.Word(v); s != want || err != werr {
			t.Fatalf("P17.1: Word(%s): %q, %v, want %q, %v", tell(v), s, err, want, werr)
		}
	}
	for _, err := range []api.Errno{api.OK, api.ErrType} {
		if told[err] < 1000 {
			t.Errorf("error %v was to be told only %d times", err, told[err])
		}
	}
}

// TestWordsOfWhatIsReckoned: numbers that an expression makes, and texts.
func TestWordsOfWhatIsReckoned(t *testing.T) {
	for _, c := range []struct {
		e    expr.Expr
		want string
	}{
		{op(opAdd, num(1), num(2)), "3"}, {op(opDiv, num(6), num(-2)), "-3"}, {op(opDiv, num(0), num(-2)), "0"},
		{op(opLen, str("abc")), "3"}, {join(str("a"), str("")), "a"}, {join(str("a"), op(opDigits, num(-4))), "a-4"},
		{op(opSame, num(1), num(1)), "true"}, {op(opNot, yes()), "false"}, {none(), ""}, {item(), ""}, {event(), ""},
		{op(opIf, yes(), num(7), op(opList)), "7"}, {join(str(repeat("x", 64)), str(repeat("y", 64))), repeat("x", 64) + repeat("y", 64)},
	} {
		mustMake(t, "the word of "+tellExpr(c.e), el("p", txt(c.e)), nothing(), api.Tree{Tag: "p", Kids: []api.Tree{{Text: c.want}}})
	}
	for _, e := range []expr.Expr{op(opDiv, num(1), num(2)), op(opDiv, num(1), num(0)), op(opDiv, num(0), num(0)), op(opList), op(opAdd, num(1<<53), num(2))} {
		mustRefuse(t, "the word of "+tellExpr(e), el("p", txt(e)), nothing(), 99, api.ErrType)
	}
}
