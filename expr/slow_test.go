package expr_test

import (
	"bytes"
	"math"
	"math/rand"
	"slices"
	"testing"

	"fanlight/api"
	"fanlight/expr"
)

// standing is a part and how deep it stands.
type standing struct {
	part  expr.Expr
	depth int
}

// listed are the first parts of e, each ahead of its Args: more than may be, and so enough to find the first fault of all.
func listed(e expr.Expr) []standing {
	var l []standing
	due := []standing{{e, 1}}
	for len(due) > 0 && len(l) < 2*api.MaxExpr {
		next := due[len(due)-1]
		due = due[:len(due)-1]
		l = append(l, next)
		for _, arg := range slices.Backward(next.part.Args) {
			due = append(due, standing{arg, next.depth + 1})
		}
	}
	return l
}

// slowCheck is Check by the chapter's words, one after the other.
func slowCheck(e expr.Expr) api.Errno {
	for n, x := range listed(e) {
		if x.depth == 9 {
			return api.ErrDeep
		}
		if n == 64 {
			return api.ErrCount
		}
		if !slowMayBe(x.part) {
			return api.ErrState
		}
	}
	return api.OK
}

func slowMayBe(e expr.Expr) bool {
	if e.Op < 0 || e.Op > 29 {
		return false
	}
	if n := argCounts()[e.Op]; n >= 0 && len(e.Args) != n || n < 0 && len(e.Args) > 8 {
		return false
	}
	if isOther := math.IsNaN(math.Float64frombits(e.Bits)) && e.Bits != oneNaN; e.Op == opNumber && isOther || e.Op != opNumber && e.Bits != 0 {
		return false
	}
	switch e.Op {
	case opText:
		return len(e.Text) < 129
	case opGet, opWith:
		return len(e.Text) > 0 && len(e.Text) < 17
	}
	return e.Text == ""
}

// spoil changes one part of e, mostly into one that may not be.
func spoil(r *rand.Rand, e *expr.Expr) {
	all := partsOf(e)
	part := all[r.Intn(len(all))]
	switch r.Intn(8) {
	case 0:
		part.Op = r.Intn(34) - 2
	case 1:
		part.Bits = append(otherNaNs(), 0, 1, minusZero, oneNaN)[r.Intn(len(otherNaNs())+4)]
	case 2:
		part.Text = repeat("k", []int{0, 1, 16, 17, 128, 129}[r.Intn(6)])
	case 3:
		part.Args = part.Args[:r.Intn(len(part.Args)+1)]
	case 4:
		part.Args = append(part.Args, leaf())
	case 5:
		*part = deep(1+r.Intn(8), clone(*part))
	case 6:
		*part = list(clone(*part), ofParts(1+r.Intn(64)))
	case 7:
		*part = expr.Expr{Op: opNumber, Bits: someBits(r)}
	}
}

// TestCheckByChance: expressions with none, one or more faults, from a fixed rule.
func TestCheckByChance(t *testing.T) {
	r := rand.New(rand.NewSource(141))
	from := append(may(), some(300)...)
	told := map[api.Errno]int{}
	for range 30000 {
		e := clone(from[r.Intn(len(from))])
		for range r.Intn(4) {
			spoil(r, &e)
		}
		want := slowCheck(e)
		told[want]++
		n, d, err := expr.Size(e)
		b, berr := expr.Encode(e)
		if got := expr.Check(e); got != want || err != want || berr != want || expr.Same(e, clone(e)) != (want == api.OK) {
			t.Fatalf("P14.1, P14.2: Check(%s): %v, Size: %v, Encode: %v, want %v", tell(e), got, err, berr, want)
		}
		if want != api.OK {
			if n != 0 || d != 0 || len(b) != 0 {
				t.Fatalf("P4: Size(%s): %d, %d, Encode: %x beside an error", tell(e), n, d, b)
			}
		} else if n != len(listed(e)) || string(b) != octetsOf(e) {
			t.Fatalf("P14.1, P14.2: Size(%s): %d, Encode: %x", tell(e), n, b)
		}
	}
	for _, err := range []api.Errno{api.OK, api.ErrDeep, api.ErrCount, api.ErrState} {
		if told[err] < 200 {
			t.Errorf("error %v was to be told only %d times", err, told[err])
		}
	}
}

// bare is a part without its Args, but how many they are.
type bare struct {
	op   int
	bits uint64
	text string
	args int
}

func bares(e expr.Expr) []bare {
	var l []bare
	for _, x := range listed(e) {
		l = append(l, bare{x.part.Op, x.part.Bits, x.part.Text, len(x.part.Args)})
	}
	return l
}

// slowDecode reads b by the chapter's words, with no call within itself: of each level it keeps how many parts are due there.
func slowDecode(b []byte) ([]bare, api.Errno) {
	var l []bare
	due := []int{1}
	for len(due) > 0 {
		if due[len(due)-1] == 0 {
			due = due[:len(due)-1]
			continue
		}
		due[len(due)-1]--
		if len(due) == 9 {
			return nil, api.ErrDeep
		}
		part, n, err := slowPart(b)
		if err != api.OK {
			return nil, err
		}
		l = append(l, part)
		b = b[n:]
		due = append(due, part.args)
	}
	if len(b) > 0 {
		return nil, api.ErrTail
	}
	if len(l) >= 65 {
		return nil, api.ErrCount
	}
	return l, api.OK
}

// slowPart reads one part and how many octets it has, its Args left out.
func slowPart(b []byte) (bare, int, api.Errno) {
	if len(b) == 0 {
		return bare{}, 0, api.ErrShort
	}
	part := bare{op: int(b[0])}
	if part.op >= 30 {
		return bare{}, 0, api.ErrKind
	}
	part.args = argCounts()[part.op]
	switch part.op {
	case opNumber:
		if len(b) < 9 {
			return bare{}, 0, api.ErrShort
		}
		for _, x := range b[1:9] {
			part.bits = part.bits*256 + uint64(x)
		}
		if !slowMayBe(bits(part.bits)) {
			return bare{}, 0, api.ErrArg
		}
		return part, 9, api.OK
	case opText, opGet, opWith:
		if len(b) < 2 {
			return bare{}, 0, api.ErrShort
		}
		n := int(b[1])
		if part.op == opText && n > 128 || part.op != opText && (n < 1 || n > 16) {
			return bare{}, 0, api.ErrLong
		}
		if len(b) < 2+n {
			return bare{}, 0, api.ErrShort
		}
		part.text = string(b[2 : 2+n])
		return part, 2 + n, api.OK
	case opList:
		if len(b) < 2 {
			return bare{}, 0, api.ErrShort
		}
		if part.args = int(b[1]); part.args > 8 {
			return bare{}, 0, api.ErrCount
		}
		return part, 2, api.OK
	}
	return part, 1, api.OK
}

// mustReadAsSlowly holds Decode of b against the slow reading, and what is taken against Encode of it. It answers the error.
func mustReadAsSlowly(t *testing.T, b []byte) api.Errno {
	t.Helper()
	want, werr := slowDecode(b)
	e, err := expr.Decode(b)
	if err != werr {
		t.Fatalf("P14.2: Decode(%x): %v, want %v", b, err, werr)
	}
	if err != api.OK {
		if !isZero(e) {
			t.Fatalf("P4: Decode(%x): %s beside an error", b, tell(e))
		}
		return err
	}
	if !slices.Equal(bares(e), want) {
		t.Fatalf("P14.2: Decode(%x): %s", b, tell(e))
	}
	if back, err := expr.Encode(e); !bytes.Equal(back, b) || err != api.OK {
		t.Fatalf("P14.3: Encode(Decode(%x)): %x, %v", b, back, err)
	}
	return api.OK
}

// TestDecodeByChance: octets near to those of expressions, from a fixed rule.
func TestDecodeByChance(t *testing.T) {
	r := rand.New(rand.NewSource(142))
	from := append(may(), some(300)...)
	signs := []byte{0, 1, 2, 3, 4, 5, 8, 9, 11, 16, 17, 20, 21, 23, 25, 29, 30, 0x7f, 0x80, 0xf8, 0xff}
	told := map[api.Errno]int{}
	for range 150000 {
		b := []byte(octetsOf(from[r.Intn(len(from))]))
		for range r.Intn(4) {
			at := r.Intn(len(b) + 1)
			sign := signs[r.Intn(len(signs))]
			switch x := r.Intn(9); {
			case x == 0:
				b = b[:at]
			case x == 1:
				b = slices.Insert(b, at, sign)
			case x == 2:
				b = slices.Insert(b, at, []byte(octetsOf(from[r.Intn(len(from))]))...)
			case x == 3:
				b = slices.Insert(b, at, bytes.Repeat([]byte{20}, r.Intn(9))...)
			case at < len(b):
				b[at] = sign
			}
		}
		told[mustReadAsSlowly(t, b)]++
	}
	for _, err := range []api.Errno{api.OK, api.ErrDeep, api.ErrShort, api.ErrKind, api.ErrArg, api.ErrLong, api.ErrCount, api.ErrTail} {
		if told[err] < 100 {
			t.Errorf("error %v was told only %d times", err, told[err])
		}
	}
}

// TestDecodeOfAllShort: all octets of up to six from those that mean something.
func TestDecodeOfAllShort(t *testing.T) {
	signs := []byte{0, 1, 3, 4, 8, 11, 20, 23, 25, 30}
	taken := 0
	var grow func(b []byte)
	grow = func(b []byte) {
		if mustReadAsSlowly(t, b) == api.OK {
			taken++
		}
		if len(b) == 6 {
			return
		}
		for _, sign := range signs {
			grow(append(b[:len(b):len(b)], sign))
		}
	}
	grow(nil)
	if taken < 1000 {
		t.Errorf("only %d were taken", taken)
	}
}
