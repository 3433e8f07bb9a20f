package expr_test

import (
	"testing"

	"fanlight/api"
	"fanlight/expr"
)

// written are expressions and their octets, written out.
func written() map[string]expr.Expr {
	m := map[string]expr.Expr{
		"\x03\x00\x00\x00\x00\x00\x00\x00\x00":                    number(0),
		"\x03\x80\x00\x00\x00\x00\x00\x00\x00":                    bits(minusZero),
		"\x03\x3f\xf0\x00\x00\x00\x00\x00\x00":                    number(1),
		"\x03\x01\x02\x03\x04\x05\x06\x07\x08":                    bits(0x0102030405060708),
		"\x03\x7f\xf0\x00\x00\x00\x00\x00\x00":                    bits(plusInf),
		"\x03\xff\xf0\x00\x00\x00\x00\x00\x00":                    bits(minusInf),
		"\x03\x7f\xf8\x00\x00\x00\x00\x00\x00":                    bits(oneNaN),
		"\x04\x00":                                                text(""),
		"\x04\x03a\x00\xff":                                       text("a\x00\xff"),
		"\x04\x02\xc3\xa9":                                        text("é"),
		"\x04\x80" + repeat("x", 128):                             text(repeat("x", 128)),
		"\x08\x01k\x05":                                           get("k", leaf()),
		"\x08\x10" + repeat("k", 16) + "\x06":                     get(repeat("k", 16), op(6)),
		"\x08\x02ab\x08\x01c\x07":                                 get("ab", get("c", op(7))),
		"\x19\x01k\x05\x04\x01v":                                  with("k", leaf(), text("v")),
		"\x19\x10" + repeat("k", 16) + "\x19\x01\x00\x05\x06\x00": with(repeat("k", 16), with("\x00", leaf(), op(6)), op(0)),
		"\x17\x00":                                     list(),
		"\x17\x01\x17\x00":                             list(list()),
		"\x17\x03\x01\x02\x04\x01a":                    list(op(1), op(2), text("a")),
		"\x17\x08" + repeat("\x05", 8):                 wide(8),
		"\x17\x02\x17\x02\x01\x02\x14\x00":             list(list(op(1), op(2)), op(opNot, op(0))),
		"\x0b\x05\x03\x00\x00\x00\x00\x00\x00\x00\x00": op(opAdd, leaf(), number(0)),
		"\x0c\x03\x40\x00\x00\x00\x00\x00\x00\x00\x05": op(12, number(2), leaf()),
		"\x15\x02\x14\x01\x04\x00":                     op(opIf, op(2), op(opNot, op(1)), text("")),
		"\x1b\x08\x01l\x05\x0b\x07\x07":                op(27, get("l", leaf()), op(opAdd, op(7), op(7))),
		repeat("\x14", 7) + "\x05":                     deep(8, leaf()),
		repeat("\x17\x01", 7) + "\x17\x00":             list(list(list(list(list(list(list(list()))))))),
	}
	for n := range opGet {
		if n != opNumber && n != opText {
			m[one(n)] = op(n)
		}
	}
	for _, n := range []int{10, 15, 20, 26} {
		m[one(n)+"\x06"] = op(n, op(6))
	}
	for _, n := range []int{9, 11, 12, 13, 14, 16, 17, 18, 19, 22, 24, 27, 28, 29} {
		m[one(n)+"\x06\x07"] = op(n, op(6), op(7))
	}
	m["\x15\x05\x06\x07"] = op(opIf, op(5), op(6), op(7))
	return m
}

// TestTheExample: the chapter's own.
func TestTheExample(t *testing.T) {
	e, s := op(11, op(5), op(3)), "\x0b\x05\x03\x00\x00\x00\x00\x00\x00\x00\x00"
	if b, err := expr.Encode(e); string(b) != s || err != api.OK {
		t.Errorf("P14.2: Encode(add(state, number)): %x, %v", b, err)
	}
	mustTake(t, s, e)
}

func TestOctetsOfEachOp(t *testing.T) {
	for s, e := range written() {
		if b, err := expr.Encode(e); string(b) != s || err != api.OK {
			t.Errorf("P14.2: Encode(%s): %x, %v, want %x", tell(e), b, err, s)
		}
		if got, err := expr.Decode([]byte(s)); tell(got) != tell(e) || err != api.OK {
			t.Errorf("P14.2: Decode(%x): %s, %v, want %s", s, tell(got), err, tell(e))
		}
	}
}

func TestThereAndBack(t *testing.T) {
	for _, e := range append(may(), some(3000)...) {
		b, err := expr.Encode(e)
		if string(b) != octetsOf(e) || err != api.OK {
			t.Fatalf("P14.2: Encode(%s): %x, %v", tell(e), b, err)
		}
		back, err := expr.Decode(b)
		if tell(back) != tell(e) || !expr.Same(back, e) || err != api.OK {
			t.Fatalf("P14.3: Decode(Encode(%s)): %s, %v", tell(e), tell(back), err)
		}
	}
}

// TestEncodeRefuses: what Encode answers is what Check does.
func TestEncodeRefuses(t *testing.T) {
	refused := append(twoFaults(), fault{"9 deep", deep(9, leaf()), api.ErrDeep}, fault{"9 deep at the last", list(wide(8), deep(8, leaf())), api.ErrDeep}, fault{"65 parts", behindAll(ofParts(64), leaf()), api.ErrCount})
	for name, bad := range mayNot() {
		refused = append(refused, fault{name, bad, api.ErrState}, fault{name + " at the last", list(wide(3), bad), api.ErrState})
	}
	for _, n := range strayOps() {
		refused = append(refused, fault{"op " + tell(op(n)), op(n), api.ErrState})
	}
	for _, b := range otherNaNs() {
		refused = append(refused, fault{tell(bits(b)), bits(b), api.ErrState})
	}
	for _, c := range refused {
		if b, err := expr.Encode(c.e); len(b) != 0 || err != c.want {
			t.Errorf("P14.2, P4: Encode of %s: %x, %v, want %v", c.name, b, err, c.want)
		}
	}
}

// mustRefuse also asks for an answer without an expression.
func mustRefuse(t *testing.T, s string, want api.Errno) {
	t.Helper()
	if e, err := expr.Decode([]byte(s)); !isZero(e) || err != want {
		t.Errorf("P14.2: Decode(%x): %s, %v, want error %v", s, tell(e), err, want)
	}
}

func mustTake(t *testing.T, s string, want expr.Expr) {
	t.Helper()
	if e, err := expr.Decode([]byte(s)); tell(e) != tell(want) || err != api.OK {
		t.Errorf("P14.2: Decode(%x): %s, %v, want %s", s, tell(e), err, tell(want))
	}
}

// TestFaultsAtEachPart: each fault of a part's octets is told wherever that part stands, from the first to the last one of all, whatever comes behind.
func TestFaultsAtEachPart(t *testing.T) {
	faults := map[string]api.Errno{
		"": api.ErrShort, "\x03": api.ErrShort, "\x03\x7f\xf8\x00\x00\x00\x00\x00": api.ErrShort, "\x04": api.ErrShort, "\x04\x01": api.ErrShort, "\x04\x80" + repeat("x", 127): api.ErrShort,
		"\x08": api.ErrShort, "\x08\x01": api.ErrShort, "\x08\x10" + repeat("k", 15): api.ErrShort, "\x17": api.ErrShort, "\x19": api.ErrShort, "\x19\x02k": api.ErrShort,
		"\x1e": api.ErrKind, "\x1f": api.ErrKind, "\x80": api.ErrKind, "\xff": api.ErrKind,
		"\x03\x7f\xf0\x00\x00\x00\x00\x00\x01": api.ErrArg, "\x03\x7f\xf8\x00\x00\x00\x00\x00\x01": api.ErrArg, "\x03\xff\xf8\x00\x00\x00\x00\x00\x00": api.ErrArg, "\x03\xff\xff\xff\xff\xff\xff\xff\xff": api.ErrArg,
		"\x04\x81": api.ErrLong, "\x04\xff": api.ErrLong, "\x08\x00": api.ErrLong, "\x08\x11": api.ErrLong, "\x08\x80": api.ErrLong, "\x08\xff": api.ErrLong, "\x19\x00": api.ErrLong, "\x19\x11": api.ErrLong, "\x19\x80": api.ErrLong,
		"\x17\x09": api.ErrCount, "\x17\x10": api.ErrCount, "\x17\xff": api.ErrCount,
	}
	long := list(text(repeat("x", 128)), with(repeat("k", 16), get(repeat("g", 16), leaf()), number(1)), op(opIf, wide(8), list(), number(2)))
	for _, e := range append([]expr.Expr{leaf(), long, deep(8, leaf()), deepLast(8, leaf())}, some(40)...) {
		s := octetsOf(e)
		for _, at := range places(e) {
			for piece, want := range faults {
				mustRefuse(t, s[:at.ahead]+piece, want)
				if want != api.ErrShort {
					mustRefuse(t, s[:at.ahead]+piece+s[at.ahead:], want)
					mustRefuse(t, s[:at.ahead]+piece+repeat("\x05", 300), want)
				}
			}
		}
	}
}

// TestDepthAtEachPart: from each part on, as many parts within each other as there may be, and one more.
func TestDepthAtEachPart(t *testing.T) {
	for _, e := range append([]expr.Expr{leaf(), deep(8, leaf()), deepLast(8, leaf())}, some(40)...) {
		s := octetsOf(e)
		for _, at := range places(e) {
			for _, step := range []string{"\x14", "\x17\x01", "\x08\x01k", "\x19\x01k", "\x15", "\x0b"} {
				down := s[:at.ahead] + repeat(step, 8-at.depth)
				mustRefuse(t, down, api.ErrShort)
				for _, ninth := range []string{"", "\x05", "\x1e", "\x04\x81", "\x17\x09", repeat("\x05", 300)} {
					mustRefuse(t, down+step+ninth, api.ErrDeep)
				}
				mustRefuse(t, down+"\x1e", api.ErrKind)
			}
		}
	}
}

// TestEndsWithin: octets that end within the expression end too early, wherever that is; behind it, whatever is left is told.
func TestEndsWithin(t *testing.T) {
	for _, e := range append(may(), some(300)...) {
		s := octetsOf(e)
		for n := range len(s) {
			mustRefuse(t, s[:n], api.ErrShort)
		}
		for _, tail := range []string{"\x00", "\x05", "\x1e", "\xff\xff", "\x17\x09", "\x04\x81", s} {
			mustRefuse(t, s+tail, api.ErrTail)
		}
	}
}

// TestOpsByTheirOctet: of all first octets.
func TestOpsByTheirOctet(t *testing.T) {
	for first := range 256 {
		if first > opLast {
			mustRefuse(t, one(first), api.ErrKind)
			mustRefuse(t, "\x0b\x05"+one(first)+"\x05", api.ErrKind)
			continue
		}
		e := plain(first, argsOf(first))
		mustTake(t, octetsOf(e), e)
	}
}

// TestCountsByTheirOctet: a list's Args are 0 to 8, and the count tells so ahead of them.
func TestCountsByTheirOctet(t *testing.T) {
	for n := range 256 {
		if n > maxList {
			mustRefuse(t, "\x17"+one(n), api.ErrCount)
			mustRefuse(t, "\x17"+one(n)+repeat("\x05", n), api.ErrCount)
			mustRefuse(t, "\x14\x17"+one(n)+repeat("\x05", n), api.ErrCount)
			continue
		}
		mustTake(t, "\x17"+one(n)+repeat("\x05", n), wide(n))
		mustRefuse(t, "\x17"+one(n)+repeat("\x05", n+1), api.ErrTail)
		if n > 0 {
			mustRefuse(t, "\x17"+one(n)+repeat("\x05", n-1), api.ErrShort)
		}
	}
}

// TestTextsByTheirLength: a length is looked at ahead of the text, and of all that comes behind.
func TestTextsByTheirLength(t *testing.T) {
	for n := range 256 {
		s := repeat("k", n)
		if n > api.MaxText {
			mustRefuse(t, "\x04"+one(n), api.ErrLong)
			mustRefuse(t, "\x04"+one(n)+s, api.ErrLong)
		} else {
			mustTake(t, "\x04"+one(n)+s, text(s))
		}
		if n == 0 || n > api.MaxName {
			mustRefuse(t, "\x08"+one(n), api.ErrLong)
			mustRefuse(t, "\x08"+one(n)+s+"\x05", api.ErrLong)
			mustRefuse(t, "\x19"+one(n), api.ErrLong)
			mustRefuse(t, "\x19"+one(n)+s+"\x05\x05", api.ErrLong)
		} else {
			mustTake(t, "\x08"+one(n)+s+"\x05", get(s, leaf()))
			mustTake(t, "\x19"+one(n)+s+"\x05\x05", with(s, leaf(), leaf()))
		}
	}
}

// TestNumbersByTheirBits: those that Canon leaves are taken, the others are refused when all of their octets are there.
func TestNumbersByTheirBits(t *testing.T) {
	for _, b := range []uint64{0, minusZero, 1, minusZero | 1, plusInf - 1, plusInf, minusInf, oneNaN} {
		mustTake(t, "\x03"+eight(b), bits(b))
	}
	for _, b := range otherNaNs() {
		mustRefuse(t, "\x03"+eight(b), api.ErrArg)
		mustRefuse(t, "\x03"+eight(b)[:7], api.ErrShort)
		mustRefuse(t, "\x03"+eight(b)+"\x05", api.ErrArg)
		mustRefuse(t, "\x0b\x05\x03"+eight(b), api.ErrArg)
		mustRefuse(t, "\x0b\x03"+eight(b)+"\x1e", api.ErrArg)
		mustRefuse(t, "\x0b\x1e\x03"+eight(b), api.ErrKind)
	}
}

// TestWhichErrorComesFirst: of two faults the one whose octets come first.
func TestWhichErrorComesFirst(t *testing.T) {
	down := repeat("\x14", 7) // what comes behind it is 8 deep
	nan := "\x03" + eight(oneNaN+1)
	for _, c := range []struct {
		s    string
		want api.Errno
	}{
		{"", api.ErrShort},
		{"\x0b\x1e\x04\x81", api.ErrKind},
		{"\x0b\x04\x81\x1e", api.ErrLong},
		{"\x0b\x17\x09\x1e", api.ErrCount},
		{"\x0b" + nan + "\x1e", api.ErrArg},
		{"\x0b\x04\x05abc", api.ErrShort},
		{"\x19\x01k\x1e\x08\x00", api.ErrKind},
		{"\x19\x00\x1e", api.ErrLong},
		{"\x08\x02k", api.ErrShort},
		{"\x08\x02k\x1e", api.ErrShort},
		{"\x08\x01k\x1e", api.ErrKind},

		// Too deep: ahead of whatever the part is, if there is one at all; what is told ahead of a part's Args is told ahead of their depth.
		{down, api.ErrShort},
		{down + "\x14", api.ErrDeep},
		{down + "\x14\x1e", api.ErrDeep},
		{down + "\x15", api.ErrDeep},
		{down + "\x17", api.ErrShort},
		{down + "\x17\x09", api.ErrCount},
		{down + "\x17\x08", api.ErrDeep},
		{down + "\x17\x01" + nan, api.ErrDeep},
		{down + "\x08", api.ErrShort},
		{down + "\x08\x00", api.ErrLong},
		{down + "\x08\x11", api.ErrLong},
		{down + "\x08\x01", api.ErrShort},
		{down + "\x08\x01k", api.ErrDeep},
		{down + "\x19\x02k", api.ErrShort},
		{down + "\x19\x02kk", api.ErrDeep},
		{down + "\x03\x00", api.ErrShort},
		{down + nan, api.ErrArg},
		{down + "\x1e", api.ErrKind},
		{"\x0b\x1e" + down + "\x14", api.ErrKind},
		{"\x0b" + down + "\x05\x1e", api.ErrDeep},
		{"\x0b" + down[1:] + "\x05\x1e", api.ErrKind},
		{"\x0b" + down[1:] + "\x14\x05\x1e", api.ErrDeep},

		// What is behind a whole expression comes last but for too many parts.
		{"\x05\x1e", api.ErrTail},
		{"\x05\x04\x81", api.ErrTail},
		{"\x05" + down + "\x14", api.ErrTail},
		{"\x17\x00\x05", api.ErrTail},
		{nan + "\x05", api.ErrArg},
		{down + "\x05\x05", api.ErrTail},
	} {
		mustRefuse(t, c.s, c.want)
	}
	mustTake(t, down+"\x17\x00", deep(8, list()))
	mustTake(t, down+"\x03"+eight(minusInf), deep(8, bits(minusInf)))
	mustTake(t, down+"\x04\x01\x1e", deep(8, text("\x1e")))
}

// TestPartsOfTheWhole: 64 parts may be, 65 may not, which is told behind every other fault, whatever is left behind among them.
func TestPartsOfTheWhole(t *testing.T) {
	down := repeat("\x14", 7)
	nan := "\x03" + eight(oneNaN+1)
	for _, full := range []expr.Expr{ofParts(64), behindAll(ofParts(57), deep(7, leaf())), behindAll(ofParts(62), op(opNot, leaf()))} {
		s := octetsOf(full)
		mustTake(t, s, full)
		mustRefuse(t, s+"\x05", api.ErrTail)
		mustRefuse(t, s[:len(s)-1], api.ErrShort)
	}
	for _, many := range []expr.Expr{behindAll(ofParts(64), leaf()), behindAll(ofParts(64), wide(8)), behindAll(ofParts(63), deep(6, leaf()))} {
		s := octetsOf(many)
		mustRefuse(t, s, api.ErrCount)
		mustRefuse(t, s+"\x05", api.ErrTail)
		mustRefuse(t, s+"\x1e\x1e", api.ErrTail)
		mustRefuse(t, s+s, api.ErrTail)
		cut := s[:len(s)-1] // up to the last part
		for piece, want := range map[string]api.Errno{
			"": api.ErrShort, "\x0b\x05": api.ErrShort, "\x1e": api.ErrKind, nan: api.ErrArg, "\x04\x81": api.ErrLong, "\x08\x00": api.ErrLong, "\x17\x09": api.ErrCount, down + "\x14": api.ErrDeep,
		} {
			mustRefuse(t, cut+piece, want)
		}
	}
}

// TestTooManyPartsEnd: far more parts than may be are read to their end.
func TestTooManyPartsEnd(t *testing.T) {
	s := "\x05"
	for range 6 {
		s = "\x17\x08" + repeat(s, 8)
	}
	for n, want := range map[string]api.Errno{s: api.ErrCount, s + "\x05": api.ErrTail, s[:len(s)-1]: api.ErrShort, s[:len(s)-1] + "\x1e": api.ErrKind, s[:len(s)-1] + "\x14\x14\x05": api.ErrDeep} {
		if e, err := expr.Decode([]byte(n)); !isZero(e) || err != want {
			t.Errorf("P1, P14.2: Decode of %d octets: %v, want error %v", len(n), err, want)
		}
	}
}

// TestNilAndEmptyOctets: P1.
func TestNilAndEmptyOctets(t *testing.T) {
	for _, b := range [][]byte{nil, {}} {
		if e, err := expr.Decode(b); !isZero(e) || err != api.ErrShort {
			t.Errorf("P1, P14.2: Decode of no octets: %s, %v", tell(e), err)
		}
	}
	b, err := expr.Encode(op(opAdd, expr.Expr{Op: opState, Args: []expr.Expr{}}, expr.Expr{Op: opList, Args: []expr.Expr{}}))
	if string(b) != "\x0b\x05\x17\x00" || err != api.OK {
		t.Errorf("P1, P14.2: Encode with empty Args: %x, %v", b, err)
	}
}
