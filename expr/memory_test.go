package expr_test

import (
	"slices"
	"sync"
	"testing"
	"unsafe"

	"fanlight/api"
	"fanlight/expr"
)

// span is memory, from its first octet to behind its last.
type span struct {
	from, to uintptr
}

func spanOf[T any](l []T) []span {
	if cap(l) == 0 {
		return nil
	}
	var one T
	from := uintptr(unsafe.Pointer(unsafe.SliceData(l)))
	return []span{{from, from + uintptr(cap(l))*unsafe.Sizeof(one)}}
}

func spanOfText(s string) []span {
	if s == "" {
		return nil
	}
	from := uintptr(unsafe.Pointer(unsafe.StringData(s)))
	return []span{{from, from + uintptr(len(s))}}
}

// listSpans are the memory of all Args within e, of each list to its whole capacity.
func listSpans(e expr.Expr) []span {
	all := spanOf(e.Args)
	for _, arg := range e.Args {
		all = append(all, listSpans(arg)...)
	}
	return all
}

func textSpans(e expr.Expr) []span {
	all := spanOfText(e.Text)
	for _, arg := range e.Args {
		all = append(all, textSpans(arg)...)
	}
	return all
}

// overlap tells whether two of the spans lie in one memory.
func overlap(lists ...[]span) bool {
	all := slices.Concat(lists...)
	slices.SortFunc(all, func(a, b span) int { return int(a.from) - int(b.from) })
	for i := 1; i < len(all); i++ {
		if all[i].from < all[i-1].to {
			return true
		}
	}
	return false
}

// within tells whether one of the spans lies in the memory of b.
func within(b []byte, spans []span) bool {
	return slices.ContainsFunc(spans, func(s span) bool { return overlap(spanOf(b), []span{s}) })
}

// roomy is e with room behind the last of all Args, into which a careless call could write.
func roomy(e expr.Expr) expr.Expr {
	args := make([]expr.Expr, 0, len(e.Args)+2)
	for _, arg := range e.Args {
		args = append(args, roomy(arg))
	}
	e.Args = args
	return e
}

// widened is e with its Args to their whole capacity.
func widened(e expr.Expr) expr.Expr {
	var args []expr.Expr
	for _, arg := range e.Args[:cap(e.Args)] {
		args = append(args, widened(arg))
	}
	e.Args = args
	return e
}

// behind tells e and what lies behind the last of its Args.
func behind(e expr.Expr) string {
	return tell(widened(e))
}

// askAll makes with e every call of the package that takes one.
func askAll(e expr.Expr) {
	expr.Check(e)
	expr.Size(e)
	expr.Encode(e)
	expr.Same(e, e)
	expr.Same(e, sample())
	expr.Same(sample(), e)
}

func TestAskingChangesNothing(t *testing.T) {
	l := append(may(), some(200)...)
	for _, bad := range mayNot() {
		l = append(l, bad, list(leaf(), bad))
	}
	for _, c := range twoFaults() {
		if !endless(c.e, 0) {
			l = append(l, c.e)
		}
	}
	for _, w := range l {
		e := roomy(w)
		was := behind(e)
		askAll(e)
		if behind(e) != was {
			t.Errorf("P14.4: asking has changed %s to %s", was, behind(e))
		}
	}
}

func TestEncodeSharesNothing(t *testing.T) {
	for _, w := range append(may(), some(200)...) {
		e := roomy(w)
		b, _ := expr.Encode(e)
		c, _ := expr.Encode(e)
		if overlap(spanOf(b), spanOf(c)) || within(b, slices.Concat(listSpans(e), textSpans(e))) {
			t.Fatalf("P14.4: Encode(%s) shares memory", tell(w))
		}
		was := behind(e)
		for i := range b {
			b[i] ^= 0xff
		}
		if behind(e) != was || string(c) != octetsOf(w) {
			t.Fatalf("P14.4: a change of the octets of %s has changed something else", tell(w))
		}
	}
}

func TestDecodeSharesNothing(t *testing.T) {
	for _, w := range append(may(), some(200)...) {
		b := append([]byte(octetsOf(w)), "behind"...)
		was := string(b)
		b = b[:len(b)-len("behind")]
		x, _ := expr.Decode(b)
		y, _ := expr.Decode(b)
		if overlap(listSpans(x), listSpans(y)) {
			t.Fatalf("P14.4: answers for %x share memory", b)
		}
		if within(b, slices.Concat(listSpans(x), textSpans(x), listSpans(y), textSpans(y))) {
			t.Fatalf("P14.4: an answer for %x lies in it", b)
		}
		if string(b[:len(was)]) != was {
			t.Fatalf("P14.4: Decode has changed %x to %x", was, b[:len(was)])
		}
		told := tell(x)
		for i := range b {
			b[i] ^= 0xff
		}
		if tell(x) != told || tell(y) != told {
			t.Fatalf("P14.4: a change of the octets has changed the expression %s", told)
		}
		for _, part := range partsOf(&x) {
			part.Op, part.Bits, part.Text = -1, 1, "changed"
		}
		if tell(y) != told {
			t.Fatalf("P14.4: a change of one answer has changed another, %s", told)
		}
	}
}

// TestRefusingChangesNothing: octets that are refused stay.
func TestRefusingChangesNothing(t *testing.T) {
	for _, s := range []string{"\x1e\x05", "\x05\x05", "\x03" + eight(oneNaN+1), "\x03" + eight(minusZero|oneNaN), "\x04\x81" + repeat("x", 129), "\x08\x00\x05", "\x17\x09" + repeat("\x05", 9), repeat("\x14", 8) + "\x05", octetsOf(behindAll(ofParts(64), leaf()))} {
		b := []byte(s)
		expr.Decode(b)
		if string(b) != s {
			t.Errorf("P14.4: refusing has changed %x to %x", s, b)
		}
	}
}

// TestSharedArgsBecomeTheirOwn: Args that lie twice in one expression are met each time, and are two lists in what is read back.
func TestSharedArgsBecomeTheirOwn(t *testing.T) {
	inner := list(text("a"), get("k", leaf()))
	e := op(opAdd, inner, inner)
	if n, d, err := expr.Size(e); n != 9 || d != 4 || err != api.OK {
		t.Errorf("P14.1: Size of an expression whose Args share: %d, %d, %v", n, d, err)
	}
	if !expr.Same(e, clone(e)) || expr.Same(e, inner) {
		t.Error("P14.1: Same of an expression whose Args share")
	}
	b, _ := expr.Encode(e)
	back, err := expr.Decode(b)
	if tell(back) != tell(e) || err != api.OK || overlap(listSpans(back)) {
		t.Errorf("P14.4: two lists of one answer share memory (%v)", err)
	}
}

// TestAnswersFollowWhatIsHandedIn: what was asked ahead is kept nowhere.
func TestAnswersFollowWhatIsHandedIn(t *testing.T) {
	e := list(text("a"), op(opNot, leaf()))
	was := clone(e)
	before, _ := expr.Encode(e)
	if !expr.Same(e, was) {
		t.Error("P14.1: Same of an expression and its copy: false")
	}
	e.Args[0].Text, e.Args[1].Args[0] = "b", op(opNot, op(1))
	after, _ := expr.Encode(e)
	if string(before) != "\x17\x02\x04\x01a\x14\x05" || string(after) != "\x17\x02\x04\x01b\x14\x14\x01" {
		t.Errorf("P14.4: Encode ahead of a change and behind it: %x, %x", before, after)
	}
	if n, d, err := expr.Size(e); n != 5 || d != 4 || err != api.OK || expr.Same(e, was) {
		t.Errorf("P14.4: Size behind a change: %d, %d, %v, or Same", n, d, err)
	}
	e.Args[1].Args[0].Args[0].Bits = 1
	if err := expr.Check(e); err != api.ErrState {
		t.Errorf("P14.4: Check behind a change: %v", err)
	}
}

// TestAnswersAreOnceForAll: P3: what is answered hangs on the arguments alone, not on calls ahead nor on those at the same time.
func TestAnswersAreOnceForAll(t *testing.T) {
	l := append(may(), some(100)...)
	var all sync.WaitGroup
	for range 4 {
		all.Go(func() {
			for _, e := range l {
				askAll(withinItself(opList, 8))
				b, err := expr.Encode(e)
				back, derr := expr.Decode(b)
				expr.Decode(append(b, '\x05'))
				if string(b) != octetsOf(e) || err != api.OK || tell(back) != tell(e) || derr != api.OK {
					t.Errorf("P3: Encode(%s) or Decode of it is not the same each time", tell(e))
				}
			}
		})
	}
	all.Wait()
}
