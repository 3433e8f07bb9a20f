package seal_test

import (
	"hash/crc32"
	"math"
	"math/rand"
	"testing"

	"fanlight/api"
	"fanlight/seal"
)

func TestSumOfKnownOctets(t *testing.T) {
	for _, c := range []struct {
		s    string
		want uint32
	}{
		{"", 0},
		{"123456789", 0x2d3dd0ae},
		{"\xff\xff\xff\xff", 0xffffffff},
	} {
		if got := seal.Sum([]byte(c.s)); got != c.want {
			t.Errorf("P4.1: Sum(%q): %08x, want %08x", c.s, got, c.want)
		}
	}
	if got := seal.Sum(nil); got != 0 {
		t.Errorf("P1, P4.1: Sum(nil): %08x", got)
	}
}

// TestSumAsReckonedElsewhere: the library knows this polynomial, too, and the chapter's words are followed bit by bit.
func TestSumAsReckonedElsewhere(t *testing.T) {
	table := crc32.MakeTable(crc32.Koopman)
	r := rand.New(rand.NewSource(41))
	hold := func(b []byte) {
		t.Helper()
		got := seal.Sum(b)
		if want := crc32.Checksum(b, table); got != want || got != sumOf(string(b)) {
			t.Fatalf("P4.1: Sum(%x): %08x, want %08x, bit by bit %08x", b, got, want, sumOf(string(b)))
		}
	}
	for i := range 1 << 16 {
		hold([]byte{byte(i), byte(i >> 8)})
	}
	for i := range 256 {
		hold([]byte{byte(i)})
	}
	for n := range 2000 {
		b := make([]byte, n)
		r.Read(b)
		hold(b)
	}
	hold(make([]byte, most+8))
}

func TestPut(t *testing.T) {
	for _, c := range []struct {
		f    seal.Frame
		head string
	}{
		{seal.Frame{Kind: 1}, "\x01\x00\x00\x00"},
		{seal.Frame{Kind: 1, Data: []byte{}}, "\x01\x00\x00\x00"},
		{frame(1, "a"), "\x01\x00\x00\x01"},
		{frame(255, "a"), "\xff\x00\x00\x01"},
		{frame(2, repeat("x", 255)), "\x02\x00\x00\xff"},
		{frame(2, repeat("x", 256)), "\x02\x00\x01\x00"},
		{frame(3, repeat("x", 0x1234)), "\x03\x00\x12\x34"},
		{frame(4, repeat("x", most-1)), "\x04\x00\xff\xff"},
		{frame(5, repeat("x", most)), "\x05\x01\x00\x00"},
		{frame(255, repeat("\x00", most)), "\xff\x01\x00\x00"},
	} {
		want := sealed(c.head + string(c.f.Data))
		if b, err := seal.Put(c.f); string(b) != want || err != api.OK {
			t.Errorf("P4.2: Put(%s): %d octets, %v, want %d, %q", brief(tell(c.f)), len(b), err, len(want), c.head)
		}
	}
}

// TestWholeOctets: of a few frames, written out; the sum's lowest octet comes first.
func TestWholeOctets(t *testing.T) {
	for _, c := range []struct {
		f    seal.Frame
		want string
	}{
		{seal.Frame{Kind: 1}, "\x01\x00\x00\x00\x88\x9b\x79\xef"},
		{frame(1, "a"), "\x01\x00\x00\x01\x61\x0b\x93\x0b\x83"},
		{frame(255, "\x00\xff"), "\xff\x00\x00\x02\x00\xff\x0b\x6d\x62\x4b"},
	} {
		if b, err := seal.Put(c.f); string(b) != c.want || err != api.OK {
			t.Errorf("P4.2: Put(%s): %x, %v, want %x", tell(c.f), b, err, c.want)
		}
		mustTake(t, c.want, c.f)
	}
}

// TestPutRefuses: a kind that is none goes ahead of Data that is too long.
func TestPutRefuses(t *testing.T) {
	for _, c := range []struct {
		kind, octets int
		want         api.Errno
	}{
		{0, 0, api.ErrKind},
		{-1, 1, api.ErrKind},
		{-255, 1, api.ErrKind},
		{256, 1, api.ErrKind},
		{257, 1, api.ErrKind},
		{1 << 32, 1, api.ErrKind},
		{1<<32 + 1, 1, api.ErrKind},
		{math.MaxInt, 0, api.ErrKind},
		{math.MinInt, 0, api.ErrKind},
		{math.MinInt + 1, 0, api.ErrKind},
		{0, most, api.ErrKind},
		{0, most + 1, api.ErrKind},
		{-1, most + 1, api.ErrKind},
		{256, most + 1, api.ErrKind},
		{1, most + 1, api.ErrLong},
		{255, most + 1, api.ErrLong},
		{255, 2*most + 1, api.ErrLong},
		{1, 1 << 24, api.ErrLong},
		{1, 1<<24 + 1, api.ErrLong},
	} {
		f := seal.Frame{Kind: c.kind, Data: make([]byte, c.octets)}
		if b, err := seal.Put(f); len(b) != 0 || err != c.want {
			t.Errorf("P4.2: Put of kind %d, %d octets: %d octets, %v, want error %v", c.kind, c.octets, len(b), err, c.want)
		}
	}
}

// TestAllKinds: 1 to 255, there and back; no other.
func TestAllKinds(t *testing.T) {
	for kind := -300; kind <= 600; kind++ {
		f := frame(kind, "x")
		b, err := seal.Put(f)
		if kind < 1 || kind > 255 {
			if len(b) != 0 || err != api.ErrKind {
				t.Errorf("P4.2: Put of kind %d: %x, %v", kind, b, err)
			}
			continue
		}
		if string(b) != octetsOf(f) || err != api.OK {
			t.Errorf("P4.2: Put of kind %d: %x, %v", kind, b, err)
		}
		mustTake(t, octetsOf(f), f)
	}
}

// mustTake asks that s begins with f.
func mustTake(t *testing.T, s string, f seal.Frame) {
	t.Helper()
	n := len(f.Data) + 8
	if got, m, err := seal.Get([]byte(s)); tell(got) != tell(f) || m != n || err != api.OK {
		t.Fatalf("P4.2: Get(%x): %s, %d, %v, want %s, %d", brief(s), brief(tell(got)), m, err, brief(tell(f)), n)
	}
}

// mustRefuse also asks for an answer without a frame, and that Scan stops there.
func mustRefuse(t *testing.T, s string, want api.Errno) {
	t.Helper()
	if f, n, err := seal.Get([]byte(s)); !isZero(f) || n != 0 || err != want {
		t.Fatalf("P4.2: Get(%x): %s, %d, %v, want error %v", brief(s), brief(tell(f)), n, err, want)
	}
	if l, n := seal.Scan([]byte(s)); len(l) != 0 || n != 0 {
		t.Fatalf("P4.2: Scan(%x): %s, %d, want none", brief(s), brief(tellAll(l)), n)
	}
}

// refused are octets that begin with no frame, each with its error.
func refused() map[string]api.Errno {
	a := octetsOf(frame(1, "a"))
	great := octetsOf(frame(1, repeat("g", most)))
	return map[string]api.Errno{
		"":                       api.ErrShort,
		"\x01":                   api.ErrShort,
		"\x01\x00\x00\x00":       api.ErrShort,
		sealed(head(1, 0))[:7]:   api.ErrShort, // fewer than the least frame has
		a[:8]:                    api.ErrShort, // as many as the least frame has
		a[:7]:                    api.ErrShort, // within the sum
		a[:5]:                    api.ErrShort, // the sum is missing
		a[:4]:                    api.ErrShort, // Data is missing
		great[:len(great)-1]:     api.ErrShort,
		great[:len(great)-4]:     api.ErrShort,
		great[:len(great)-5]:     api.ErrShort,
		great[:8]:                api.ErrShort,
		head(255, most) + "1234": api.ErrShort,

		sealed(head(0, 0)):       api.ErrKind,
		sealed(head(0, 1) + "a"): api.ErrKind,
		repeat("\x00", 8):        api.ErrKind,
		repeat("\x00", 9):        api.ErrKind,
		repeat("\x00", 10000):    api.ErrKind,

		sealed(head(1, most+1) + repeat("g", most+1)):      api.ErrLong,
		sealed(head(255, 2*most) + repeat("g", 2*most)):    api.ErrLong,
		sealed(head(1, 1<<24-1) + repeat("\x00", 1<<24-1)): api.ErrLong,
		repeat("\xff", 8):   api.ErrLong,
		repeat("\xff", 100): api.ErrLong,

		"\x01\x00\x00\x00\x00\x00\x00\x00":                          api.ErrCorrupt,
		"\x01\x00\x00\x01a\x00\x00\x00\x00":                         api.ErrCorrupt,
		a[:5] + a[6:] + a[5:6]:                                      api.ErrCorrupt,
		a[:5] + "\xff\xff\xff\xff":                                  api.ErrCorrupt,
		a[:5] + a[8:] + a[7:8] + a[6:7] + a[5:6]:                    api.ErrCorrupt, // the highest octet first
		"\x02" + a[1:]:                                              api.ErrCorrupt, // another kind
		a[:4] + "b" + a[5:]:                                         api.ErrCorrupt,
		head(1, 0) + a[4:]:                                          api.ErrCorrupt, // another length
		great[:4] + "h" + great[5:]:                                 api.ErrCorrupt,
		great[:len(great)-1] + string([]byte{^great[len(great)-1]}): api.ErrCorrupt,
	}
}

func TestOctetsThatAreNoFrame(t *testing.T) {
	for s, want := range refused() {
		mustRefuse(t, s, want)
	}
}

// TestWhichErrorComesFirst: of two faults the one that the chapter names first.
func TestWhichErrorComesFirst(t *testing.T) {
	for _, c := range []struct {
		s    string
		want api.Errno
	}{
		// Fewer than 8 octets go ahead of all.
		{"\x00", api.ErrShort},
		{repeat("\x00", 7), api.ErrShort},
		{"\x00\xff\xff\xff\x00\x00\x00", api.ErrShort},
		{"\x01\xff\xff\xff\x00\x00\x00", api.ErrShort},
		{head(1, most+1) + "abc", api.ErrShort},
		{"\x01\x00\x00\x00\x00\x00\x00", api.ErrShort},

		// A first octet of 0 goes ahead of a length, of an end, of a sum.
		{"\x00\xff\xff\xff\x00\x00\x00\x00", api.ErrKind},
		{head(0, most+1) + repeat("x", most+5), api.ErrKind},
		{head(0, most) + "abcd", api.ErrKind},
		{head(0, 1) + "abcd", api.ErrKind},
		{head(0, 0) + "abcd", api.ErrKind},

		// A length goes ahead of an end, of a sum.
		{head(1, most+1) + "abcd", api.ErrLong},
		{head(1, most+1) + repeat("x", most), api.ErrLong},
		{head(1, most+1) + repeat("x", most+5), api.ErrLong},
		{head(255, 1<<24-1) + "abcd", api.ErrLong},

		// An end goes ahead of a sum.
		{head(1, most) + "abcd", api.ErrShort},
		{head(1, most) + repeat("x", most+3), api.ErrShort},
		{head(1, most) + repeat("x", most+4), api.ErrCorrupt},
		{head(1, 1) + "abcd", api.ErrShort},
		{head(1, 1) + "abcde", api.ErrCorrupt},
		{head(1, 0) + "abcd", api.ErrCorrupt},
	} {
		mustRefuse(t, c.s, c.want)
	}
}

// TestThereAndBack: whatever stands behind the frame.
func TestThereAndBack(t *testing.T) {
	tails := []string{"", "\x00", "\xff", "a", "\x01\x00\x00\x01a", repeat("\x00", 100), repeat("\xff", 100), octetsOf(frame(9, "behind")), head(1, most+1)}
	for _, f := range append(may(), some(500)...) {
		b, err := seal.Put(f)
		if string(b) != octetsOf(f) || err != api.OK {
			t.Fatalf("P4.2: Put(%s): %x, %v", brief(tell(f)), brief(string(b)), err)
		}
		for _, tail := range append(tails, string(b)) {
			mustTake(t, string(b)+tail, f)
		}
	}
}

// TestEndsWithin: octets that end within the frame end too early, wherever that is.
func TestEndsWithin(t *testing.T) {
	for _, f := range append(small(), some(100)...) {
		s := octetsOf(f)
		for n := range len(s) {
			mustRefuse(t, s[:n], api.ErrShort)
		}
	}
}

// TestAnyOctets: octets from a fixed rule, most of them near to frames, are answered by the chapter's words.
func TestAnyOctets(t *testing.T) {
	r := rand.New(rand.NewSource(42))
	frames := append(small(), some(300)...)
	told := map[api.Errno]int{}
	for range 100000 {
		b := []byte(octetsOf(frames[r.Intn(len(frames))]))
		for range r.Intn(3) {
			at := r.Intn(len(b))
			if r.Intn(2) == 0 {
				at = r.Intn(8) // the head more often than not
			}
			b[at] = byte(r.Intn(4))
		}
		b = b[:len(b)-r.Intn(len(b))/(1+r.Intn(20))]
		f, n, err := taken(b)
		told[err]++
		if err != api.OK {
			mustRefuse(t, string(b), err)
			continue
		}
		mustTake(t, string(b), f)
		if back, _ := seal.Put(f); string(back) != string(b[:n]) {
			t.Fatalf("P4.2: Put(Get(%x)): %x", b, back)
		}
	}
	for _, err := range []api.Errno{api.OK, api.ErrShort, api.ErrKind, api.ErrLong, api.ErrCorrupt} {
		if told[err] < 100 {
			t.Errorf("only %d octets are answered by %v", told[err], err)
		}
	}
}

// TestAllShortOctets: all heads of few signs, behind them a sum that fits or does not.
func TestAllShortOctets(t *testing.T) {
	signs := "\x00\x01\x02\xff"
	var grow func(s string)
	grow = func(s string) {
		for _, whole := range []string{s, sealed(s), sealed(s) + "\x01", s + "\x00\x00\x00\x00"} {
			f, _, err := taken([]byte(whole))
			if err != api.OK {
				mustRefuse(t, whole, err)
			} else {
				mustTake(t, whole, f)
			}
		}
		for i := range len(signs) {
			if len(s) < 6 {
				grow(s + signs[i:i+1])
			}
		}
	}
	grow("")
}

// TestNilAndEmpty: P1: no octets at all, nil or empty, are one.
func TestNilAndEmpty(t *testing.T) {
	for _, b := range [][]byte{nil, {}} {
		if f, n, err := seal.Get(b); !isZero(f) || n != 0 || err != api.ErrShort {
			t.Errorf("P1, P4.2: Get of no octets: %s, %d, %v", tell(f), n, err)
		}
		if l, n := seal.Scan(b); len(l) != 0 || n != 0 {
			t.Errorf("P1, P4.2: Scan of no octets: %s, %d", tellAll(l), n)
		}
		if octets, err := seal.Put(seal.Frame{Kind: 7, Data: b}); string(octets) != sealed("\x07\x00\x00\x00") || err != api.OK {
			t.Errorf("P1, P4.2: Put of no octets: %x, %v", octets, err)
		}
		if f, err := seal.Put(seal.Frame{Data: b}); len(f) != 0 || err != api.ErrKind {
			t.Errorf("P1, P4.2: Put of the zero frame: %x, %v", f, err)
		}
	}
}
