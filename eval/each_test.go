package eval_test

import (
	"testing"

	"fanlight/api"
)

// throughList are the ops that go through a list.
func throughList() []int {
	return []int{opMap, opFilter, opFind}
}

func TestMap(t *testing.T) {
	mustTell(t, op(opMap, state(), op(opAdd, item(), num(10))), scope(numbers(3)), 2+3*3, list(number(10), number(11), number(12)))
	mustTell(t, op(opMap, state(), item()), scope(numbers(32)), 2+32, numbers(32))
	mustTell(t, op(opMap, state(), event()), scope(numbers(2), text("e")), 4, list(text("e"), text("e")))
	mustTell(t, op(opMap, state(), op(opList)), scope(numbers(2)), 4, list(list(), list()))
	mustTell(t, op(opMap, state(), state()), scope(numbers(2)), 4, list(numbers(2), numbers(2)))
	mixed := list(nothing(), truth(true), number(1), text("a"), list(), record("a", nothing()))
	mustTell(t, op(opMap, state(), op(opSame, item(), op(opList))), scope(mixed), 2+6*3, list(truth(false), truth(false), truth(false), truth(false), truth(true), truth(false)))
}

func TestFilter(t *testing.T) {
	small := op(opLess, item(), num(2))
	mustTell(t, op(opFilter, state(), small), scope(numbers(4)), 2+4*3, numbers(2))
	mustTell(t, op(opFilter, state(), op(opNot, small)), scope(numbers(4)), 2+4*4, list(number(2), number(3)))
	mustTell(t, op(opFilter, state(), no()), scope(numbers(32)), 34, list())
	mustTell(t, op(opFilter, state(), yes()), scope(numbers(32)), 34, numbers(32))
	mustTell(t, op(opFilter, state(), item()), scope(list(truth(true), truth(false), truth(true))), 5, list(truth(true), truth(true)))
	twice := list(text("a"), text("b"), text("a"), list(text("a")))
	mustTell(t, op(opFilter, state(), op(opSame, item(), str("a"))), scope(twice), 2+4*3, list(text("a"), text("a")))
}

func TestFind(t *testing.T) {
	for n := range 4 {
		mustTell(t, op(opFind, state(), op(opSame, item(), num(float64(n)))), scope(numbers(4)), 2+3*(n+1), number(float64(n)))
	}
	mustFail(t, op(opFind, state(), op(opSame, item(), num(4))), scope(numbers(4)), 2+3*4, api.ErrNone)
	mustFail(t, op(opFind, state(), no()), scope(numbers(32)), 34, api.ErrNone)
	mustTell(t, op(opFind, state(), yes()), scope(numbers(32)), 3, number(0))
	mustTell(t, op(opFind, state(), item()), scope(list(truth(false), truth(true), truth(false))), 4, truth(true))
	two := list(record("k n", text("a"), number(1)), record("k n", text("b"), number(2)), record("k n", text("b"), number(3)))
	mustTell(t, op(opFind, state(), op(opSame, get("k", item()), str("b"))), scope(two), 2+2*4, two.Items[1])
	mustTell(t, op(opFind, state(), yes()), scope(list(nothing())), 3, nothing())
}

// TestOverNoItems: f is never reckoned, whatever it would tell.
func TestOverNoItems(t *testing.T) {
	for _, f := range failings() {
		mustTell(t, op(opMap, op(opList), f.e), scope(), 2, list())
		mustTell(t, op(opFilter, op(opList), f.e), scope(), 2, list())
		mustFail(t, op(opFind, op(opList), f.e), scope(), 2, api.ErrNone)
	}
	empty := api.Value{Kind: kindList, Keys: []string{}, Items: []api.Value{}}
	mustTell(t, op(opMap, state(), num(1)), scope(empty), 2, list())
	mustTell(t, op(opFilter, state(), num(1)), scope(empty), 2, list())
}

// TestOverWhatIsNoList: ErrType, ahead of f.
func TestOverWhatIsNoList(t *testing.T) {
	for kind, of := range ofEachKind() {
		for _, v := range of {
			for _, n := range throughList() {
				if kind == kindList {
					continue
				}
				mustFail(t, op(n, state(), yes()), scope(v), 2, api.ErrType)
				for _, f := range failings() {
					mustFail(t, op(n, state(), f.e), scope(v), 2, api.ErrType)
				}
			}
		}
	}
	for _, f := range failings() {
		for _, n := range throughList() {
			mustFail(t, op(n, f.e, yes()), scope(), 1+f.parts, f.err)
			mustFail(t, op(n, f.e, num(1)), scope(), 1+f.parts, f.err)
		}
	}
}

// TestFThatTellsNoTruth: filter and find want a truth of each item that they ask, map takes anything.
func TestFThatTellsNoTruth(t *testing.T) {
	for kind, of := range ofEachKind() {
		for _, v := range of {
			l := list(truth(false), v, truth(true))
			mustTell(t, op(opMap, state(), item()), scope(l), 5, l)
			mustTell(t, op(opMap, state(), event()), scope(numbers(3), v), 5, list(v, v, v))
			if kind == kindTruth {
				continue
			}
			mustFail(t, op(opFilter, state(), item()), scope(l), 4, api.ErrType)
			mustFail(t, op(opFind, state(), item()), scope(l), 4, api.ErrType)
			mustFail(t, op(opFilter, state(), item()), scope(list(truth(true), v)), 4, api.ErrType)
			mustTell(t, op(opFind, state(), item()), scope(list(truth(true), v)), 3, truth(true))
			mustFail(t, op(opFilter, state(), event()), scope(numbers(3), v), 3, api.ErrType)
			mustFail(t, op(opFind, state(), event()), scope(numbers(3), v), 3, api.ErrType)
		}
	}
}

// TestErrorsOfItems: the first item of which f tells an error ends it; find asks none behind the one that it found.
func TestErrorsOfItems(t *testing.T) {
	for _, f := range failings() {
		for at := range 4 {
			fails := op(opIf, op(opLess, item(), num(float64(at))), no(), f.e)
			cost := 2 + 5*at + 4 + f.parts
			for _, n := range throughList() {
				mustFail(t, op(n, state(), fails), scope(numbers(4)), cost, f.err)
			}
			first := op(opIf, op(opSame, item(), num(float64(at))), yes(), op(opIf, op(opLess, item(), num(float64(at))), no(), f.e))
			mustTell(t, op(opFind, state(), first), scope(numbers(4)), 2+9*at+5, number(float64(at)))
			if at < 3 {
				mustFail(t, op(opFilter, state(), first), scope(numbers(4)), 2+9*at+5+8+f.parts, f.err)
			}
		}
	}
}

// TestItemInFAndAroundIt: within f Item is what is gone through; in the list, and behind the op, it is the outer one again.
func TestItemInFAndAroundIt(t *testing.T) {
	outer := numbers(2)
	double := op(opAdd, item(), item())
	mustTell(t, op(opMap, item(), double), scope(nothing(), nothing(), outer), 2+2*3, list(number(0), number(2)))
	mustTell(t, op(opList, item(), op(opMap, item(), double), item()), scope(nothing(), nothing(), outer), 11, list(outer, list(number(0), number(2)), outer))
	for _, n := range throughList() {
		want := list(list(truth(true)), text("i"))
		if n == opFind {
			want = list(truth(true), text("i"))
		}
		mustTell(t, op(opList, op(n, op(opList, yes()), item()), item()), scope(nothing(), nothing(), text("i")), 6, want)
	}
	mustFail(t, op(opList, op(opFind, op(opList, no()), item()), item()), scope(), 5, api.ErrNone)
	mustFail(t, op(opAdd, op(opLen, op(opMap, state(), item())), item()), scope(numbers(3), nothing(), text("x")), 8, api.ErrType)
	mustTell(t, op(opAdd, op(opLen, op(opMap, state(), item())), item()), scope(numbers(3), nothing(), number(5)), 8, number(8))
}

func TestWithinEachOther(t *testing.T) {
	rows := list(numbers(3), numbers(0), numbers(1))
	up := op(opAdd, item(), num(1))
	mustTell(t, op(opMap, state(), op(opMap, item(), up)), scope(rows), 2+3*2+4*3, list(list(number(1), number(2), number(3)), list(), list(number(1))))
	mustTell(t, op(opMap, state(), op(opFilter, item(), op(opLess, item(), num(1)))), scope(rows), 2+3*2+4*3, list(numbers(1), list(), numbers(1)))
	mustTell(t, op(opFilter, state(), op(opSame, op(opMap, item(), item()), item())), scope(rows), 2+3*4+4, rows)
	mustTell(t, op(opFind, state(), op(opSame, op(opLen, op(opFilter, item(), yes())), num(1))), scope(rows), 2+3*5+4, numbers(1))
	mustFail(t, op(opMap, state(), op(opFind, item(), yes())), scope(rows), 2+3+2, api.ErrNone)
	mustTell(t, op(opMap, op(opMap, state(), op(opLen, item())), up), scope(rows), 2+1+3*2+3*3, list(number(4), number(1), number(2)))
	inner := op(opMap, event(), op(opAdd, item(), get("n", state())))
	mustTell(t, op(opMap, op(opList, num(7), num(8)), op(opPush, inner, item())), scope(record("n", number(1)), numbers(2)), 4+2*(4+2*4), list(list(number(1), number(2), number(7)), list(number(1), number(2), number(8))))
}

// TestItemBehindAnError: an error within f leaves nothing behind for the next call.
func TestItemBehindAnError(t *testing.T) {
	for range 3 {
		mustFail(t, op(opMap, state(), op(opNot, item())), scope(list(truth(true), number(1)), nothing(), text("i")), 6, api.ErrType)
		mustTell(t, item(), scope(numbers(1), nothing(), text("i")), 1, text("i"))
	}
}

// TestFuelWithinF: each item takes f's fuel anew, and what f leaves aside takes none.
func TestFuelWithinF(t *testing.T) {
	for n := range 33 {
		f := op(opAnd, op(opLess, item(), num(16)), op(opNot, no()))
		asks := min(n, 16)
		mustTell(t, op(opFilter, state(), f), scope(numbers(n)), 2+n*4+2*asks, numbers(asks))
	}
}
