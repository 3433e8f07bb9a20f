package seal_test

import (
	"math/rand"
	"testing"

	"fanlight/api"
	"fanlight/seal"
)

// mustScan asks that just these frames are found in s, and how many octets they have.
func mustScan(t *testing.T, promise, s string, want []seal.Frame) {
	t.Helper()
	octets := 0
	for _, f := range want {
		octets += len(f.Data) + 8
	}
	if l, n := seal.Scan([]byte(s)); tellAll(l) != tellAll(want) || len(l) != len(want) || n != octets {
		t.Fatalf("%s: Scan(%x): %d frames %s, %d octets, want %d, %d", promise, brief(s), len(l), brief(tellAll(l)), n, len(want), octets)
	}
}

func TestScan(t *testing.T) {
	a, b := frame(1, "a"), frame(2, "")
	both := octetsOf(a) + octetsOf(b)
	for _, c := range []struct {
		s    string
		want []seal.Frame
	}{
		{"", nil},
		{octetsOf(a), []seal.Frame{a}},
		{both, []seal.Frame{a, b}},
		{both + both, []seal.Frame{a, b, a, b}},
		{both + octetsOf(a)[:8], []seal.Frame{a, b}},

		// What is no frame ends it, whatever stands behind.
		{both + repeat("\x00", 48), []seal.Frame{a, b}},
		{both + repeat("\xff", 48), []seal.Frame{a, b}},
		{both + sealed(head(0, 0)) + both, []seal.Frame{a, b}},
		{both + sealed(head(3, most+1)+repeat("x", most+1)) + both, []seal.Frame{a, b}},
		{both + "\x01\x00\x00\x00\x00\x00\x00\x00" + both, []seal.Frame{a, b}},
		{both + "\x00" + both, []seal.Frame{a, b}},
		{"\x00" + both, nil},
		{both[1:], nil},
	} {
		mustScan(t, "P4.2", c.s, c.want)
	}
}

func TestFramesBehindEachOther(t *testing.T) {
	all := append(may(), some(300)...)
	mustScan(t, "P4.3", allOctets(all), all)
	r := rand.New(rand.NewSource(43))
	for range 200 {
		part := all[len(may()):]
		from := r.Intn(len(part))
		part = part[from : from+r.Intn(len(part)-from)]
		mustScan(t, "P4.3", allOctets(part), part)
	}
	many := make([]seal.Frame, 20000)
	for i := range many {
		many[i].Kind = 1 + i%255
	}
	mustScan(t, "P4.3", allOctets(many), many)
}

// TestCutOffAnywhere: just the frames that are whole.
func TestCutOffAnywhere(t *testing.T) {
	for _, all := range [][]seal.Frame{small(), some(20), {frame(1, "")}, {frame(5, octetsOf(frame(1, "a"))), frame(6, "")}} {
		s := allOctets(all)
		whole, end := 0, 0
		for n := range len(s) + 1 {
			if next := end + len(all[min(whole, len(all)-1)].Data) + 8; n == next {
				whole, end = whole+1, next
			}
			mustScan(t, "P4.3", s[:n], all[:whole])
		}
		if whole != len(all) {
			t.Errorf("%d of %d frames are whole at the end", whole, len(all))
		}
	}
}

// TestCutOffGreatFrames: around each edge of the greatest frames.
func TestCutOffGreatFrames(t *testing.T) {
	all := []seal.Frame{frame(1, repeat("z", most)), frame(2, repeat("\x00", most)), frame(3, "")}
	s := allOctets(all)
	one := most + 8
	for _, edge := range []int{0, 4, 8, most, most + 4, one, one + 4, one + 8, one + most, one + most + 4, 2 * one, 2*one + 8} {
		for n := max(0, edge-1); n <= min(edge+1, len(s)); n++ {
			whole := min(n/one, 2)
			if n == len(s) {
				whole = 3
			}
			mustScan(t, "P4.3", s[:n], all[:whole])
		}
	}
}

// turn turns in b the bits of mask, its lowest at bit from; bits are counted from the lowest of each octet on.
func turn(b []byte, from int, mask uint64) {
	for i := range 64 {
		if mask>>i&1 == 1 {
			at := from + i
			b[at/8] ^= 1 << (at % 8)
		}
	}
}

// mustTell asks that f's octets are refused with those bits turned; behind it they are as they were.
func mustTell(t *testing.T, f seal.Frame, whole []byte, from int, mask uint64) {
	t.Helper()
	turn(whole, from, mask)
	defer turn(whole, from, mask)
	if got, n, err := seal.Get(whole); !isZero(got) || n != 0 || err != api.ErrCorrupt {
		t.Fatalf("P4.4: Get(%s) with bits %x turned from %d on: %s, %d, %v", brief(tell(f)), mask, from, brief(tell(got)), n, err)
	}
}

const behindLength = 32 // bits: what is turned from here on is told

// TestRowsOfBits: 1 to 32 bits in a row, all turned, or just the first and the last, wherever they begin.
func TestRowsOfBits(t *testing.T) {
	for _, f := range append(small(), some(30)...) {
		whole := []byte(octetsOf(f))
		for from := behindLength; from < 8*len(whole); from++ {
			for bits := 1; bits <= 32 && from+bits <= 8*len(whole); bits++ {
				mustTell(t, f, whole, from, 1<<bits-1)
				mustTell(t, f, whole, from, 1|1<<(bits-1))
			}
		}
		mustTake(t, string(whole), f)
	}
}

// TestSomeOfARow: any bits of up to 32 in a row: all choices of few, and many of more from a fixed rule.
func TestSomeOfARow(t *testing.T) {
	r := rand.New(rand.NewSource(44))
	for _, f := range []seal.Frame{frame(1, ""), frame(2, "a"), frame(255, "\x00\xff\x00\xff\x01")} {
		whole := []byte(octetsOf(f))
		for from := behindLength; from < 8*len(whole); from++ {
			left := min(32, 8*len(whole)-from)
			for mask := uint64(1); mask < 1<<min(left, 10); mask += 2 {
				mustTell(t, f, whole, from, mask)
			}
			for range 500 {
				mustTell(t, f, whole, from, 1|r.Uint64()>>(64-left))
			}
		}
	}
}

// TestRowsInGreatFrames: at the ends of the greatest frame and here and there within it.
func TestRowsInGreatFrames(t *testing.T) {
	r := rand.New(rand.NewSource(45))
	f := frame(3, repeat("\x00fan\xfflight", most/10))
	f.Data = append(f.Data, make([]byte, most-len(f.Data))...)
	whole := []byte(octetsOf(f))
	end := 8 * len(whole)
	for _, from := range []int{behindLength, behindLength + 1, end / 2, end - 65, end - 64, end - 48, end - 33, end - 32} {
		mustTell(t, f, whole, from, 1)
		mustTell(t, f, whole, from, 1<<32-1)
		mustTell(t, f, whole, from, 1|1<<31)
		mustTell(t, f, whole, from, 1|uint64(r.Uint32()))
	}
	mustTell(t, f, whole, end-1, 1)
	for range 100 {
		mustTell(t, f, whole, behindLength+r.Intn(end-32-behindLength), 1|uint64(r.Uint32()))
	}
	mustTake(t, string(whole), f)
}

// TestTurnedBitsEndTheScan: frames ahead of one with turned bits are found, that one and those behind it are not.
func TestTurnedBitsEndTheScan(t *testing.T) {
	r := rand.New(rand.NewSource(46))
	all := some(30)
	s := allOctets(all)
	start := 0
	for i, f := range all {
		bits := 8 * (len(f.Data) + 8)
		for range 20 {
			b := []byte(s)
			from := behindLength + r.Intn(bits-behindLength)
			left := min(32, bits-from)
			turn(b, 8*start+from, 1|r.Uint64()>>(64-left))
			mustScan(t, "P4.4", string(b), all[:i])
		}
		start += len(f.Data) + 8
	}
}
