package eval_test

import (
	"slices"
	"testing"

	"fanlight/api"
	"fanlight/expr"
)

// maker is an expression that makes of State, which is its own, and of Event a value one deeper than Event.
type maker struct {
	e     expr.Expr
	state api.Value
	cost  int
	want  func(x api.Value) api.Value
}

func makers() []maker {
	two := list(text("a"), nothing())
	twoKeys := record("a z", text("a"), nothing())
	return []maker{
		{op(opList, event()), nothing(), 2, func(x api.Value) api.Value { return list(x) }},
		{op(opList, yes(), event(), str("x")), nothing(), 4, func(x api.Value) api.Value { return list(truth(true), x, text("x")) }},
		{op(opPush, state(), event()), list(), 3, func(x api.Value) api.Value { return list(x) }},
		{op(opPush, state(), event()), two, 3, func(x api.Value) api.Value { return list(two.Items[0], two.Items[1], x) }},
		{with("k", state(), event()), record(""), 3, func(x api.Value) api.Value { return record("k", x) }},
		{with("k", state(), event()), twoKeys, 3, func(x api.Value) api.Value { return record("a k z", text("a"), x, nothing()) }},
		{with("a", state(), event()), twoKeys, 3, func(x api.Value) api.Value { return record("a z", x, nothing()) }},
		{op(opMap, state(), event()), list(nothing()), 3, func(x api.Value) api.Value { return list(x) }},
		{op(opMap, state(), op(opIf, item(), event(), item())), list(truth(false), truth(true), truth(false)), 2 + 3*3, func(x api.Value) api.Value { return list(truth(false), x, truth(false)) }},
	}
}

// TestDepthOfWhatIsMade: 8 deep may be, 9 may not.
func TestDepthOfWhatIsMade(t *testing.T) {
	for _, m := range makers() {
		for _, bottom := range []api.Value{text("x"), list(), record("")} {
			for n := 1; n <= 7; n++ {
				mustTell(t, m.e, scope(m.state, deep(n, bottom)), m.cost, m.want(deep(n, bottom)))
			}
			mustFail(t, m.e, scope(m.state, deep(8, bottom)), m.cost, api.ErrBig)
		}
	}
}

// TestPartsOfWhatIsMade: 512 may be, 513 may not.
func TestPartsOfWhatIsMade(t *testing.T) {
	for _, m := range makers() {
		beside := partsOf(m.want(nothing())) - 1
		for _, n := range []int{500, 512 - beside - 1, 512 - beside} {
			mustTell(t, m.e, scope(m.state, ofParts(n)), m.cost, m.want(ofParts(n)))
		}
		for n := 512 - beside + 1; n <= 512; n++ {
			mustFail(t, m.e, scope(m.state, ofParts(n)), m.cost, api.ErrBig)
		}
	}
}

func partsOf(v api.Value) int {
	n := 1
	for _, item := range v.Items {
		n += partsOf(item)
	}
	return n
}

// TestTooBigByMany: values that only together are too many parts.
func TestTooBigByMany(t *testing.T) {
	half := ofParts(255)
	mustTell(t, op(opList, state(), event()), scope(half, half), 3, list(half, half))
	mustTell(t, op(opList, state(), event(), yes()), scope(half, half), 4, list(half, half, truth(true)))
	mustFail(t, op(opList, state(), event(), yes(), yes()), scope(half, half), 5, api.ErrBig)
	mustTell(t, op(opPush, op(opList, state()), event()), scope(half, half), 4, list(half, half))
	mustFail(t, op(opPush, op(opList, state()), event()), scope(half, ofParts(257)), 4, api.ErrBig)
	mustTell(t, op(opMap, state(), state()), scope(numbers(22)), 24, list(slices.Repeat([]api.Value{numbers(22)}, 22)...))
	mustFail(t, op(opMap, state(), state()), scope(numbers(23)), 25, api.ErrBig)
	mustTell(t, op(opMap, state(), event()), scope(numbers(7), ofParts(73)), 9, list(slices.Repeat([]api.Value{ofParts(73)}, 7)...))
	mustFail(t, op(opMap, state(), event()), scope(numbers(7), ofParts(74)), 9, api.ErrBig)
	mustTell(t, with("k", state(), event()), scope(record("k l", ofParts(512-2), nothing()), ofParts(512-2)), 3, record("k l", ofParts(512-2), nothing()))
	mustFail(t, with("j", state(), event()), scope(record("k l", ofParts(512-2), nothing()), nothing()), 3, api.ErrBig)
	mustTell(t, with("j", state(), event()), scope(record("k l", ofParts(512-3), nothing()), nothing()), 3, record("j k l", nothing(), ofParts(512-3), nothing()))
}

// TestTooBigIsToldWhenAllIsReckoned: a list and a map are made of all that was reckoned, and so what a later part has to say goes ahead.
func TestTooBigIsToldWhenAllIsReckoned(t *testing.T) {
	for _, f := range failings() {
		mustFail(t, op(opList, event(), f.e), scope(nothing(), deep(8, nothing())), 2+f.parts, f.err)
		mustFail(t, op(opPush, state(), f.e), scope(numbers(32)), 2+f.parts, f.err)
		mustFail(t, with("new", state(), f.e), scope(wideRecord(32)), 2+f.parts, f.err)
		mustFail(t, op(opMap, state(), op(opIf, item(), event(), f.e)), scope(list(truth(true), truth(false)), deep(8, nothing())), 2+3+2+f.parts, f.err)
	}
	mustFail(t, op(opMap, state(), op(opIf, item(), event(), num(0))), scope(list(truth(true), number(1)), deep(8, nothing())), 2+3+2, api.ErrType)
	mustFail(t, op(opMap, state(), event()), scope(numbers(20), deep(8, nothing())), 22, api.ErrBig)
}

// TestTooBigOnTheWay: it is told even where only a part of what was made is asked for; but what is not made anew is not too big.
func TestTooBigOnTheWay(t *testing.T) {
	eight := deep(8, nothing())
	mustFail(t, op(opLen, op(opList, event())), scope(nothing(), eight), 3, api.ErrBig)
	mustFail(t, op(opAt, op(opMap, state(), event()), num(0)), scope(numbers(1), eight), 4, api.ErrBig)
	mustTell(t, op(opFilter, state(), yes()), scope(eight), 3, eight)
	mustTell(t, op(opFind, state(), yes()), scope(eight), 3, deep(7, nothing()))
	mustTell(t, op(opFilter, state(), yes()), scope(ofParts(512)), 2+len(ofParts(512).Items), ofParts(512))
	mustTell(t, op(opAt, state(), num(0)), scope(eight), 3, deep(7, nothing()))
	mustTell(t, op(opIf, yes(), state(), event()), scope(eight, ofParts(512)), 3, eight)
	mustTell(t, op(opList, op(opAt, state(), num(0))), scope(eight), 4, eight)
}

// TestJoinOfATextWithItself: octets are counted of what is made, and its Args come first.
func TestJoinOfATextWithItself(t *testing.T) {
	twice := op(opJoin, get("t", state()), get("t", state()))
	for n := range 129 {
		s := scope(record("t", text(repeat("x", n))))
		if n <= 64 {
			mustTell(t, twice, s, 5, text(repeat("x", 2*n)))
		} else {
			mustFail(t, twice, s, 5, api.ErrBig)
		}
	}
}
