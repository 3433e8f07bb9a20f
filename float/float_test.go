package float_test

import (
	"math"
	"slices"
	"testing"

	"fanlight/api"
	"fanlight/float"
)

const (
	plusZero  = 0x0000000000000000
	minusZero = 0x8000000000000000
	leastSub  = 0x0000000000000001
	greatSub  = 0x000fffffffffffff
	leastNorm = 0x0010000000000000
	greatest  = 0x7fefffffffffffff
	plusInf   = 0x7ff0000000000000
	minusInf  = 0xfff0000000000000
	oneNaN    = 0x7ff8000000000000
	sign      = 1 << 63

	half       = 0x3fe0000000000000
	one        = 0x3ff0000000000000
	two        = 0x4000000000000000
	three      = 0x4008000000000000
	bound      = 0x4340000000000000 // 2^53
	behind     = 0x4340000000000001 // 2^53 + 2, the next one
	aheadBound = 0x433fffffffffffff // 2^53 - 1
)

// otherNaNs are NaNs that are not the one: signalling and quiet, of both signs.
func otherNaNs() []uint64 {
	return []uint64{
		0x7ff0000000000001, 0x7ff4000000000000, 0x7ff7ffffffffffff, 0x7ff8000000000001, 0x7fffffffffffffff,
		0xfff0000000000001, 0xfff7ffffffffffff, 0xfff8000000000000, 0xfff8000000000001, 0xffffffffffffffff,
	}
}

// ladder is numbers from the least to the greatest, no NaN among them, each once.
func ladder() []uint64 {
	rising := []uint64{
		leastSub, 2, 3, 0x0008000000000000, greatSub, leastNorm, leastNorm + 1,
		0x3ca0000000000000, 0x3fd0000000000000, 0x3fdfffffffffffff, half, 0x3fe0000000000001, 0x3fefffffffffffff,
		one, 0x3ff0000000000001, 0x3ff8000000000000, 0x3fffffffffffffff, two, 0x4004000000000000, three, 0x400921fb54442d18,
		0x41dfffffffc00000, 0x432fffffffffffff, 0x4330000000000000, 0x4330000000000001, aheadBound, bound, behind,
		0x43e0000000000000, 0x5fefffffffffffff, 0x7fe0000000000000, greatest, plusInf,
	}
	var l []uint64
	for _, b := range slices.Backward(rising) {
		l = append(l, b|sign)
	}
	return append(append(l, minusZero, plusZero), rising...)
}

// mixed is the ladder, and numbers of all kinds from a fixed rule.
func mixed(n int) []uint64 {
	l := ladder()
	x := uint64(1)
	for range n {
		x = x*6364136223846793005 + 1442695040888963407
		b := x ^ x>>29
		if x>>60 == 0 { // more subnormal ones than the rule would give
			b &^= 0x7ff << 52
		}
		l = append(l, b)
	}
	return l
}

func number(b uint64) float64 { return math.Float64frombits(b) }

func TestCanonLeavesNumbersAsTheyAre(t *testing.T) {
	for _, b := range append(ladder(), oneNaN) {
		if got := float.Canon(b); got != b {
			t.Errorf("P1.1: Canon(%x): %x", b, got)
		}
	}
}

func TestCanonTurnsEveryNaNIntoTheOne(t *testing.T) {
	for _, b := range otherNaNs() {
		if got := float.Canon(b); got != oneNaN {
			t.Errorf("P1.1: Canon(%x): %x", b, got)
		}
	}
}

func TestClass(t *testing.T) {
	for _, c := range []struct {
		bits uint64
		want int
	}{
		{plusZero, 0},
		{minusZero, 1},
		{leastSub, 2}, {0x0008000000000000, 2}, {greatSub, 2}, {leastSub | sign, 2}, {greatSub | sign, 2},
		{leastNorm, 3}, {half, 3}, {one, 3}, {one | sign, 3}, {greatest, 3}, {leastNorm | sign, 3}, {greatest | sign, 3},
		{plusInf, 4}, {minusInf, 4},
		{oneNaN, 5},
	} {
		if got := float.Class(c.bits); got != c.want {
			t.Errorf("P1.1: Class(%x): %d, not %d", c.bits, got, c.want)
		}
	}
	for _, b := range otherNaNs() {
		if got := float.Class(b); got != 5 {
			t.Errorf("P1.1: Class(%x): %d, not 5", b, got)
		}
	}
}

func TestOrderPlaces(t *testing.T) {
	for _, c := range []struct{ bits, want uint64 }{
		{minusInf, 0x000fffffffffffff},
		{greatest | sign, 0x0010000000000000},
		{one | sign, 0x400fffffffffffff},
		{leastSub | sign, 0x7ffffffffffffffe},
		{minusZero, 0x7fffffffffffffff},
		{plusZero, 0x8000000000000000},
		{leastSub, 0x8000000000000001},
		{one, 0xbff0000000000000},
		{greatest, 0xffefffffffffffff},
		{plusInf, 0xfff0000000000000},
		{oneNaN, 0xffffffffffffffff},
	} {
		if got := float.Order(c.bits); got != c.want {
			t.Errorf("P1.1: Order(%x): %x, not %x", c.bits, got, c.want)
		}
	}
	for _, b := range otherNaNs() {
		if got := float.Order(b); got != 1<<64-1 {
			t.Errorf("P1.1: Order(%x): %x", b, got)
		}
	}
}

func TestOrderRisesAlongTheLadder(t *testing.T) {
	l := append(ladder(), oneNaN)
	for i := range l[1:] {
		if float.Order(l[i]) >= float.Order(l[i+1]) {
			t.Errorf("P1.5: %x does not come ahead of %x", l[i], l[i+1])
		}
	}
}

func TestOrderPutsTheLesserFirst(t *testing.T) {
	l := mixed(400)
	for _, a := range l {
		for _, b := range l {
			if number(a) < number(b) && float.Order(a) >= float.Order(b) {
				t.Errorf("P1.5: %x is less than %x and does not come first", a, b)
			}
			if float.Order(a) == float.Order(b) && float.Canon(a) != float.Canon(b) {
				t.Errorf("P1.5: %x and %x stand at one place", a, b)
			}
		}
	}
}

func TestFloor(t *testing.T) {
	for _, c := range []struct{ bits, want uint64 }{
		{plusZero, plusZero},
		{minusZero, minusZero},
		{leastSub, plusZero}, {greatSub, plusZero}, {leastNorm, plusZero}, {half, plusZero}, {0x3fefffffffffffff, plusZero},
		{leastSub | sign, one | sign}, {greatSub | sign, one | sign}, {half | sign, one | sign},
		{one, one}, {one | sign, one | sign},
		{0x3ff0000000000001, one}, {0x3fffffffffffffff, one},
		{0x3ff0000000000001 | sign, two | sign}, {0x3ff8000000000000 | sign, two | sign},
		{0x4004000000000000, two}, {0x4004000000000000 | sign, three | sign},
		{0x432fffffffffffff, 0x432ffffffffffffe},               // 2^52 - 1/2
		{0x432fffffffffffff | sign, 0x4330000000000000 | sign}, // -2^52 + 1/2
		{0x4330000000000001, 0x4330000000000001},
		{bound, bound}, {behind, behind}, {greatest, greatest}, {greatest | sign, greatest | sign},
		{plusInf, plusInf}, {minusInf, minusInf}, {oneNaN, oneNaN},
	} {
		if got := float.Floor(c.bits); got != c.want {
			t.Errorf("P1.2: Floor(%x): %x, not %x", c.bits, got, c.want)
		}
	}
	for _, b := range otherNaNs() {
		if got := float.Floor(b); got != oneNaN {
			t.Errorf("P1.2: Floor(%x): %x", b, got)
		}
	}
}

func TestOf(t *testing.T) {
	for _, c := range []struct {
		n    int
		want uint64
		err  api.Errno
	}{
		{0, plusZero, api.OK}, {1, one, api.OK}, {-1, one | sign, api.OK}, {3, three, api.OK}, {-3, three | sign, api.OK},
		{1<<53 - 1, aheadBound, api.OK}, {1 - 1<<53, aheadBound | sign, api.OK},
		{1 << 53, bound, api.OK}, {-1 << 53, bound | sign, api.OK},
		{1<<53 + 1, 0, api.ErrRange}, {-1<<53 - 1, 0, api.ErrRange},
		{1<<53 + 2, 0, api.ErrRange}, {-1<<53 - 2, 0, api.ErrRange},
		{1 << 62, 0, api.ErrRange}, {math.MaxInt, 0, api.ErrRange}, {math.MinInt, 0, api.ErrRange},
	} {
		if got, err := float.Of(c.n); got != c.want || err != c.err {
			t.Errorf("P1.3: Of(%d): %x, %d, not %x, %d", c.n, got, err, c.want, c.err)
		}
	}
}

func TestInt(t *testing.T) {
	for _, c := range []struct {
		bits uint64
		want int
		err  api.Errno
	}{
		{plusZero, 0, api.OK}, {minusZero, 0, api.OK},
		{one, 1, api.OK}, {one | sign, -1, api.OK}, {three, 3, api.OK}, {three | sign, -3, api.OK},
		{aheadBound, 1<<53 - 1, api.OK}, {aheadBound | sign, 1 - 1<<53, api.OK},
		{bound, 1 << 53, api.OK}, {bound | sign, -1 << 53, api.OK},
		{behind, 0, api.ErrRange}, {behind | sign, 0, api.ErrRange},
		{0x43e0000000000000, 0, api.ErrRange}, {0xc3e0000000000000, 0, api.ErrRange}, // 2^63: an int's own edge
		{greatest, 0, api.ErrRange}, {greatest | sign, 0, api.ErrRange},
		{half, 0, api.ErrWhole}, {half | sign, 0, api.ErrWhole}, {0x3ff8000000000000, 0, api.ErrWhole},
		{0x432fffffffffffff, 0, api.ErrWhole}, {0x432fffffffffffff | sign, 0, api.ErrWhole},
		{leastSub, 0, api.ErrWhole}, {leastSub | sign, 0, api.ErrWhole}, {greatSub, 0, api.ErrWhole},
		{plusInf, 0, api.ErrWhole}, {minusInf, 0, api.ErrWhole}, {oneNaN, 0, api.ErrWhole},
	} {
		if got, err := float.Int(c.bits); got != c.want || err != c.err {
			t.Errorf("P1.3: Int(%x): %d, %d, not %d, %d", c.bits, got, err, c.want, c.err)
		}
	}
	for _, b := range otherNaNs() {
		if got, err := float.Int(b); got != 0 || err != api.ErrWhole {
			t.Errorf("P1.3: Int(%x): %d, %d", b, got, err)
		}
	}
}

func TestIntOfOfIsTheNumber(t *testing.T) {
	for shift := range 54 {
		for add := -2; add <= 2; add++ {
			for _, n := range []int{1<<shift + add, -(1<<shift + add)} {
				if n < -1<<53 || n > 1<<53 {
					continue
				}
				b, err := float.Of(n)
				back, errBack := float.Int(b)
				if err != api.OK || errBack != api.OK || back != n {
					t.Errorf("P1.4: %d: Of: %x, %d; Int: %d, %d", n, b, err, back, errBack)
				}
			}
		}
	}
}

// TestAnswersHangOnArgumentsAlone: every call, asked again in another order, answers the same: nothing is kept between calls.
func TestAnswersHangOnArgumentsAlone(t *testing.T) {
	type answers struct {
		canon, order, floor, of, add, sub, mul, div uint64
		class, whole                                int
		ofErr, wholeErr                             api.Errno
	}
	ask := func(a, b uint64) (x answers) {
		x.canon, x.order, x.floor, x.class = float.Canon(a), float.Order(a), float.Floor(a), float.Class(a)
		x.of, x.ofErr = float.Of(int(a))
		x.whole, x.wholeErr = float.Int(a)
		x.add, x.sub, x.mul, x.div = float.Add(a, b), float.Sub(a, b), float.Mul(a, b), float.Div(a, b)
		return x
	}
	l := append(mixed(50), otherNaNs()...)
	var first []answers
	for _, a := range l {
		for _, b := range l {
			first = append(first, ask(a, b))
		}
	}
	for i, want := range slices.Backward(first) {
		a, b := l[i/len(l)], l[i%len(l)]
		if got := ask(a, b); got != want {
			t.Errorf("P1.7: %x, %x: %v, and then %v", a, b, want, got)
		}
	}
}
