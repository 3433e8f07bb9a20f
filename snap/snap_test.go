package snap_test

import (
	"slices"
	"strings"
	"testing"

	"fanlight/api"
	"fanlight/snap"
)

// mustRefuse asks that Check and Encode tell that error of s.
func mustRefuse(t *testing.T, s snap.Snap, want api.Errno) {
	t.Helper()
	if err := snap.Check(s); err != want {
		t.Errorf("P7.1: Check(%s): %v, want %v", short(s), err, want)
	}
	if b, err := snap.Encode(s); err != want || len(b) != 0 {
		t.Errorf("P7.1: Encode(%s): %d octets, %v, want %v", short(s), len(b), err, want)
	}
}

// mustDecode asks for what Decode tells of b.
func mustDecode(t *testing.T, name, b string, want snap.Snap, wantErr api.Errno) {
	t.Helper()
	got, err := snap.Decode([]byte(b))
	if err != wantErr || tell(got) != tell(want) {
		t.Fatalf("P7.1: Decode of %s (%s): %s, %v, want %s, %v", name, brief(b), short(got), err, short(want), wantErr)
	}
}

func TestCheckTakes(t *testing.T) {
	for _, s := range may() {
		if err := snap.Check(s); err != api.OK {
			t.Errorf("P7.1: Check(%s): %v", short(s), err)
		}
	}
}

func TestNumbersOutside(t *testing.T) {
	for _, n := range outside() {
		for _, other := range []int{0, 4, last} {
			mustRefuse(t, snapOf(n, other, 3), api.ErrRange)
			mustRefuse(t, snapOf(other, n, 3), api.ErrRange)
		}
		mustRefuse(t, snap.Snap{Epoch: n, Seq: n}, api.ErrRange)
		mustRefuse(t, snap.Snap{Epoch: n, Seq: -n}, api.ErrRange)
	}
}

func TestTooLong(t *testing.T) {
	for _, n := range []int{longest + 1, longest + 2, size - around, size, api.MaxData, api.MaxData + 1, 1 << 20} {
		mustRefuse(t, snapOf(0, 0, n), api.ErrLong)
		mustRefuse(t, snapOf(last, last, n), api.ErrLong)
	}
}

// TestWhichErrorOfCheckComesFirst: a number outside and too long: the number.
func TestWhichErrorOfCheckComesFirst(t *testing.T) {
	for _, n := range outside() {
		mustRefuse(t, snapOf(n, 0, longest+1), api.ErrRange)
		mustRefuse(t, snapOf(0, n, longest+1), api.ErrRange)
		mustRefuse(t, snapOf(n, n, api.MaxData+1), api.ErrRange)
	}
}

// TestEncodeOctets: a slot octet by octet, but for its sum.
func TestEncodeOctets(t *testing.T) {
	b, err := snap.Encode(snap.Snap{Epoch: 0x0102030405, Seq: 0xa0b0c0d0, Data: []byte("abc")})
	if err != api.OK || len(b) != size {
		t.Fatalf("P7.1: Encode: %d octets, %v", len(b), err)
	}
	want := "\x03\x00\x00\x13" + "\x00\x00\x00\x01\x02\x03\x04\x05" + "\x00\x00\x00\x00\xa0\xb0\xc0\xd0" + "abc"
	if got := string(b[:len(want)]); got != want {
		t.Errorf("P7.1: Encode: it begins with %x, want %x", got, want)
	}
	if strings.Trim(string(b[len(want)+4:]), "\x00") != "" {
		t.Errorf("P7.1: Encode: behind the frame are not zeros alone")
	}
}

func TestEncode(t *testing.T) {
	for _, s := range may() {
		if b, err := snap.Encode(s); err != api.OK || string(b) != slotOf(s) {
			t.Errorf("P7.1: Encode(%s): %s, %v, want %s", short(s), brief(string(b)), err, brief(slotOf(s)))
		}
	}
}

func TestDecode(t *testing.T) {
	for _, s := range may() {
		mustDecode(t, "a slot", slotOf(s), s, api.OK)
	}
	mustDecode(t, "16 octets within", padded(frame(3, within(4, 2, ""))), snap.Snap{Epoch: 4, Seq: 2}, api.OK)
	mustDecode(t, "8016 octets within", padded(frame(3, within(4, 2, data(4, longest)))), snapOf(4, 2, longest), api.OK)
}

func TestDecodeRefuses(t *testing.T) {
	for _, f := range slices.Concat(faults(), greatFaults(), twoFaults()) {
		mustDecode(t, f.name, f.slot, snap.Snap{}, f.want)
		// The words of the chapter, held against the error that is written out.
		if _, err := decoded(f.slot); err != f.want {
			t.Errorf("%s: %v by the chapter's words, %v is written", f.name, err, f.want)
		}
	}
	if s, err := snap.Decode(nil); err != api.ErrCount || !isZero(s) {
		t.Errorf("P1, P7.1: Decode(nil): %s, %v", short(s), err)
	}
}

// TestDecodeAnyLength: only 8160 octets are a slot.
func TestDecodeAnyLength(t *testing.T) {
	long := slot(4, 2, "x") + strings.Repeat("\x00", 100)
	for n := range len(long) + 1 {
		if n != size {
			mustDecode(t, "a slot cut or grown", long[:n], snap.Snap{}, api.ErrCount)
		}
	}
	mustDecode(t, "a very long slot", slot(4, 2, "x")+strings.Repeat("\x00", 1<<20), snap.Snap{}, api.ErrCount)
}

// TestDecodeAnyOctetBehind: wherever behind the frame it stands.
func TestDecodeAnyOctetBehind(t *testing.T) {
	for _, n := range []int{0, 1, 4000, longest} {
		whole := slotOf(snapOf(4, 2, n))
		for at := around + n; at < size; at++ {
			if (at-around-n)%7 == 0 || at > size-3 {
				mustDecode(t, "a slot with an octet behind", with(whole, at, "\x01"), snap.Snap{}, api.ErrTail)
			}
		}
	}
}

// TestDecodeAnyKind: Kind 3 alone.
func TestDecodeAnyKind(t *testing.T) {
	for kind := range 256 {
		want, err := snap.Snap{Epoch: 4, Seq: 2, Data: []byte("x")}, api.OK
		if kind != 3 {
			want, err = snap.Snap{}, api.ErrKind
		}
		mustDecode(t, "any Kind", padded(frame(byte(kind), within(4, 2, "x"))), want, err)
	}
}

// TestDecodeAnyLengthWithin: from nothing to as much as a slot holds.
func TestDecodeAnyLengthWithin(t *testing.T) {
	inner := within(4, 2, data(4, size))
	for n := 0; n <= size-8; n++ {
		if n > 100 && n < longest-50 && n%97 != 0 {
			continue
		}
		b := padded(frame(3, inner[:n]))
		switch {
		case n < 16:
			mustDecode(t, "too little within", b, snap.Snap{}, api.ErrShort)
		case n > 8016:
			mustDecode(t, "too much within", b, snap.Snap{}, api.ErrLong)
		default:
			mustDecode(t, "a slot", b, snap.Snap{Epoch: 4, Seq: 2, Data: []byte(inner[16:n])}, api.OK)
		}
	}
}

// TestDecodeByChance: slots with faults here and there, with a sum that fits and with one that does not, against the chapter's words.
func TestDecodeByChance(t *testing.T) {
	r := chanceOf(71)
	for range 3000 {
		b := []byte(slotOf(r.snap()))
		for range r.Intn(4) {
			b[r.at()] ^= byte(1 << r.Intn(8))
		}
		if n := int(b[1])<<16 + int(b[2])<<8 + int(b[3]); r.Intn(2) == 0 && n+8 <= size {
			copy(b, sealed(string(b[:n+4])))
		}
		want, err := decoded(string(b))
		mustDecode(t, "a slot by chance", string(b), want, err)
	}
	for range 300 {
		b := r.octets(size)
		want, err := decoded(b)
		mustDecode(t, "octets by chance", b, want, err)
	}
}

// at is a place in a slot, often in its head.
func (r chance) at() int {
	if r.Intn(2) == 0 {
		return r.Intn(around)
	}
	return r.Intn(size)
}

func TestDecodeOfEncodeIsTheSnapshot(t *testing.T) {
	all := may()
	r := chanceOf(72)
	for range 300 {
		all = append(all, r.snap())
	}
	for n := 0; n <= longest; n += 61 {
		all = append(all, snapOf(n, 2*n, n))
	}
	for _, s := range all {
		b, err := snap.Encode(s)
		if err != api.OK || len(b) != size {
			t.Fatalf("P7.2: Encode(%s): %d octets, %v", short(s), len(b), err)
		}
		if got, err := snap.Decode(b); err != api.OK || tell(got) != tell(s) {
			t.Fatalf("P7.2: Decode of Encode(%s): %s, %v", short(s), short(got), err)
		}
	}
}
