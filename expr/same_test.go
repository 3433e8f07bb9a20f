package expr_test

import (
	"slices"
	"testing"

	"fanlight/expr"
)

func TestSameOfAll(t *testing.T) {
	l := may()
	for i, a := range l {
		for j, b := range l {
			if got := expr.Same(a, clone(b)); got != (i == j) {
				t.Errorf("P14.1: Same(%s, %s): %v", tell(a), tell(b), got)
			}
		}
	}
}

// sample is an expression with parts of all kinds at places of all kinds.
func sample() expr.Expr {
	return op(opIf,
		op(18, op(1), op(16, get("k", leaf()), bits(minusZero))),
		list(text("ab"), list(), with("k", op(6), number(2)), op(28, op(opItem), op(opNot, op(2)))),
		op(opAdd, number(1), bits(oneNaN)))
}

// changes are ways in which one part can become another one that may be, as far as it is of an op that has them.
func changes() []func(*expr.Expr) {
	return []func(*expr.Expr){
		func(e *expr.Expr) { *e = list(*e) },
		func(e *expr.Expr) {
			if len(e.Args) > 1 {
				slices.Reverse(e.Args)
			}
		},
		func(e *expr.Expr) {
			if len(e.Args) == 2 && e.Text == "" {
				e.Op = opAdd + 1
			}
		},
		func(e *expr.Expr) {
			if len(e.Args) == 0 && e.Text == "" && e.Bits == 0 {
				e.Op = (e.Op + 1) % 3
			}
		},
		func(e *expr.Expr) {
			if e.Text != "" {
				e.Text += "\x00"
			}
		},
		func(e *expr.Expr) {
			if e.Text != "" {
				e.Text = "K" + e.Text[1:]
			}
		},
		func(e *expr.Expr) {
			if e.Op == opNumber && e.Bits != oneNaN {
				e.Bits ^= minusZero
			}
		},
		func(e *expr.Expr) {
			if e.Op == opNumber {
				e.Bits = 1
			}
		},
		func(e *expr.Expr) {
			if e.Op == opList {
				e.Args = append(e.Args, leaf())
			}
		},
		func(e *expr.Expr) {
			if e.Op == opList && len(e.Args) > 0 {
				e.Args = e.Args[:len(e.Args)-1]
			}
		},
		func(e *expr.Expr) {
			if e.Op == opGet {
				*e = with(e.Text, e.Args[0], leaf())
			}
		},
	}
}

// partsOf are the places of all parts of e, in order.
func partsOf(e *expr.Expr) []*expr.Expr {
	all := []*expr.Expr{e}
	for i := range e.Args {
		all = append(all, partsOf(&e.Args[i])...)
	}
	return all
}

// TestSameTellsOnePartApart: expressions that differ in one part alone, in one field of it alone, are not the same.
func TestSameTellsOnePartApart(t *testing.T) {
	e := sample()
	if !expr.Same(e, clone(e)) {
		t.Fatal("P14.1: Same of an expression and its copy: false")
	}
	found := 0
	for at := range partsOf(&e) {
		for _, change := range changes() {
			other := clone(e)
			change(partsOf(&other)[at])
			one := tell(e) == tell(other)
			if !one {
				found++
			}
			if expr.Same(e, other) != one || expr.Same(other, e) != one || !expr.Same(other, clone(other)) {
				t.Errorf("P14.1: Same(%s, %s): %v", tell(e), tell(other), !one)
			}
		}
	}
	if found < 50 {
		t.Fatalf("only %d expressions were other ones", found)
	}
}

// TestSameOfNumbers: numbers are one if their bits are, as NaN and the zeros tell.
func TestSameOfNumbers(t *testing.T) {
	if !expr.Same(bits(oneNaN), bits(oneNaN)) {
		t.Error("P14.1: Same of NaN and NaN: false")
	}
	if expr.Same(bits(0), bits(minusZero)) || expr.Same(bits(minusZero), bits(0)) {
		t.Error("P14.1: Same of both zeros: true")
	}
}

// TestSameOfWhatMayNotBe: such expressions are the same as none, not even as themselves.
func TestSameOfWhatMayNotBe(t *testing.T) {
	refused := []expr.Expr{deep(9, leaf()), deepLast(9, leaf()), behindAll(ofParts(64), leaf()), list(deep(8, leaf()))}
	for _, c := range twoFaults() {
		refused = append(refused, c.e)
	}
	for _, bad := range mayNot() {
		refused = append(refused, bad, op(opNot, bad), list(leaf(), bad))
	}
	for _, bad := range refused {
		for _, other := range append(refused, expr.Expr{}, leaf(), list(), number(0), deep(8, leaf())) {
			if expr.Same(bad, other) || expr.Same(other, bad) {
				t.Errorf("P14.1: Same with an expression of op %d that may not be: true", bad.Op)
			}
		}
	}
	if expr.Same(bits(oneNaN+1), bits(oneNaN)) || expr.Same(bits(oneNaN), bits(oneNaN+1)) {
		t.Error("P14.1: Same of the one NaN and another: true")
	}
}

// TestNilAndEmptyArgsAreOne: P1.
func TestNilAndEmptyArgsAreOne(t *testing.T) {
	for n := range opGet {
		bare, empty := plain(n, 0), plain(n, 0)
		empty.Args = []expr.Expr{}
		if !expr.Same(bare, empty) || !expr.Same(op(opNot, empty), op(opNot, bare)) {
			t.Errorf("P1, P14.1: Same of op %d with nil and empty Args: false", n)
		}
	}
	if !expr.Same(list(), expr.Expr{Op: opList, Args: []expr.Expr{}}) {
		t.Error("P1, P14.1: Same of a list with nil and empty Args: false")
	}
}
