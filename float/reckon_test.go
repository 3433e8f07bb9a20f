package float_test

import (
	"math"
	"math/big"
	"testing"

	"fanlight/float"
)

type call struct {
	name  string
	do    func(a, b uint64) uint64
	exact func(z, a, b *big.Rat) *big.Rat
}

func calls() []call {
	return []call{
		{"Add", float.Add, (*big.Rat).Add},
		{"Sub", float.Sub, (*big.Rat).Sub},
		{"Mul", float.Mul, (*big.Rat).Mul},
		{"Div", float.Div, (*big.Rat).Quo},
	}
}

func finite(b uint64) bool { return !math.IsNaN(number(b)) && !math.IsInf(number(b), 0) }

func zero(b uint64) bool { return b&^sign == 0 }

// TestReckoningIsNearest holds finite arguments against exact fractions, rounded once. Where the exact answer is zero its sign is left to TestReckoningEdges.
func TestReckoningIsNearest(t *testing.T) {
	l := mixed(80)
	for _, c := range calls() {
		for _, a := range l {
			for _, b := range l {
				if !finite(a) || !finite(b) || c.name == "Div" && zero(b) {
					continue
				}
				exact := c.exact(new(big.Rat), new(big.Rat).SetFloat64(number(a)), new(big.Rat).SetFloat64(number(b)))
				nearest, _ := exact.Float64()
				want, got := math.Float64bits(nearest), c.do(a, b)
				if exact.Sign() == 0 {
					got &^= sign
				} else if exact.Sign() < 0 { // too small for a number, it keeps its sign
					want |= sign
				}
				if got != want {
					t.Errorf("P1.2: %s(%x, %x): %x, not %x", c.name, a, b, got, want)
				}
			}
		}
	}
}

func TestReckoningEdges(t *testing.T) {
	for _, c := range []struct {
		name       string
		do         func(a, b uint64) uint64
		a, b, want uint64
	}{
		{"Add", float.Add, one, two, three},
		{"Add", float.Add, plusZero, minusZero, plusZero},
		{"Add", float.Add, minusZero, minusZero, minusZero},
		{"Add", float.Add, one, one | sign, plusZero},
		{"Add", float.Add, one, 0x3ca0000000000000, one},                               // a tie, to even below: 1 + 2^-53
		{"Add", float.Add, 0x3ff0000000000001, 0x3ca0000000000000, 0x3ff0000000000002}, // a tie, to even above
		{"Add", float.Add, one, 0x3ca0000000000001, 0x3ff0000000000001},                // beyond the tie
		{"Add", float.Add, bound, one, bound},
		{"Add", float.Add, bound, three, 0x4340000000000002},
		{"Add", float.Add, leastSub, greatSub, leastNorm},
		{"Add", float.Add, greatest, greatest, plusInf},
		{"Add", float.Add, greatest, 0x7c8fffffffffffff, greatest}, // below half a step beyond the greatest
		{"Add", float.Add, greatest, 0x7c90000000000000, plusInf},  // half a step
		{"Add", float.Add, plusInf, one, plusInf},
		{"Add", float.Add, minusInf, minusInf, minusInf},
		{"Add", float.Add, plusInf, minusInf, oneNaN},
		{"Sub", float.Sub, three, one, two},
		{"Sub", float.Sub, one, three, two | sign},
		{"Sub", float.Sub, one, one, plusZero},
		{"Sub", float.Sub, plusZero, plusZero, plusZero},
		{"Sub", float.Sub, minusZero, plusZero, minusZero},
		{"Sub", float.Sub, plusZero, minusZero, plusZero},
		{"Sub", float.Sub, minusZero, minusZero, plusZero},
		{"Sub", float.Sub, leastNorm, leastSub, greatSub},
		{"Sub", float.Sub, plusInf, minusInf, plusInf},
		{"Sub", float.Sub, minusInf, minusInf, oneNaN},
		{"Sub", float.Sub, plusInf, plusInf, oneNaN},
		{"Mul", float.Mul, half, two, one},
		{"Mul", float.Mul, three | sign, one | sign, three},
		{"Mul", float.Mul, minusZero, one, minusZero},
		{"Mul", float.Mul, minusZero, one | sign, plusZero},
		{"Mul", float.Mul, leastSub, half, plusZero}, // a tie, to even
		{"Mul", float.Mul, leastSub | sign, half, minusZero},
		{"Mul", float.Mul, 3, half, 2},
		{"Mul", float.Mul, leastNorm, half, 0x0008000000000000},
		{"Mul", float.Mul, greatest, two | sign, minusInf},
		{"Mul", float.Mul, plusInf, one | sign, minusInf},
		{"Mul", float.Mul, plusInf, plusZero, oneNaN},
		{"Mul", float.Mul, minusZero, minusInf, oneNaN},
		{"Div", float.Div, three, two, 0x3ff8000000000000},
		{"Div", float.Div, two, three, 0x3fe5555555555555},
		{"Div", float.Div, one, plusZero, plusInf},
		{"Div", float.Div, one, minusZero, minusInf},
		{"Div", float.Div, one | sign, minusZero, plusInf},
		{"Div", float.Div, minusZero, one, minusZero},
		{"Div", float.Div, one, minusInf, minusZero},
		{"Div", float.Div, leastSub, two, plusZero},
		{"Div", float.Div, 3, two, 2},
		{"Div", float.Div, greatest, half, plusInf},
		{"Div", float.Div, minusInf, plusZero, minusInf},
		{"Div", float.Div, plusZero, plusZero, oneNaN},
		{"Div", float.Div, minusZero, plusZero, oneNaN},
		{"Div", float.Div, plusInf, minusInf, oneNaN},
	} {
		if got := c.do(c.a, c.b); got != c.want {
			t.Errorf("P1.2: %s(%x, %x): %x, not %x", c.name, c.a, c.b, got, c.want)
		}
	}
}

func TestReckoningWithNaNsIsTheOneNaN(t *testing.T) {
	for _, c := range calls() {
		for _, n := range append(otherNaNs(), oneNaN) {
			for _, b := range append(ladder(), otherNaNs()...) {
				if x, y := c.do(n, b), c.do(b, n); x != oneNaN || y != oneNaN {
					t.Errorf("P1.2: %s of %x and %x: %x, %x", c.name, n, b, x, y)
				}
			}
		}
	}
}

func TestSumsAndProductsOfTwoInEitherOrder(t *testing.T) {
	l := append(mixed(100), otherNaNs()...)
	for _, a := range l {
		for _, b := range l {
			if x, y := float.Add(a, b), float.Add(b, a); x != y {
				t.Errorf("P1.6: Add of %x and %x: %x, %x", a, b, x, y)
			}
			if x, y := float.Mul(a, b), float.Mul(b, a); x != y {
				t.Errorf("P1.6: Mul of %x and %x: %x, %x", a, b, x, y)
			}
		}
	}
}
