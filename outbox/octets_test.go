package outbox_test

import (
	"fmt"
	"math"
	"slices"
	"strconv"
	"strings"
	"testing"

	"fanlight/api"
	"fanlight/outbox"
)

// mustDecode asks for what Decode tells of x.
func mustDecode(t *testing.T, name, x string, want outbox.Box, wantErr api.Errno) {
	t.Helper()
	got, err := outbox.Decode([]byte(x))
	if err != wantErr || tell(got) != tell(want) {
		t.Fatalf("P8.2: Decode of %s (%d octets: %.40x): %s, %v, want %s, %v", name, len(x), x, short(got), err, short(want), wantErr)
	}
}

// TestEncodeOctets: a box written out octet by octet.
func TestEncodeOctets(t *testing.T) {
	b := outbox.Box{Last: 0x0102030405, Items: []api.Item{
		{ID: 0x60, Effect: effect("ab", list(api.Value{Kind: 1, Bits: 1}, text("a")))},
		{ID: 0x2040608091, Effect: effect("\x00", api.Value{})},
	}}
	want := "\x00\x00\x00\x01\x02\x03\x04\x05" + "\x00\x02" +
		"\x00\x00\x00\x00\x00\x00\x00\x60" + "\x02ab" + "\x05\x02\x02\x04\x01a" +
		"\x00\x00\x00\x20\x40\x60\x80\x91" + "\x01\x00" + "\x00"
	if x, err := outbox.Encode(b); err != api.OK || string(x) != want {
		t.Errorf("P8.2: Encode: %x, %v, want %x", x, err, want)
	}
	mustDecode(t, "a box written out", want, b, api.OK)
	if x, err := outbox.Encode(outbox.New()); err != api.OK || string(x) != strings.Repeat("\x00", 10) {
		t.Errorf("P8.2: Encode of New: %x, %v", x, err)
	}
	if x, err := outbox.Encode(box(8, run(32, most)...)); err != api.OK || string(x[:10]) != "\x00\x00\x00\x00\x00\x00\x00\x08\x01\x00" {
		t.Errorf("P8.2: Encode of 256 items: %.10x, %v", x, err)
	}
}

func TestEncode(t *testing.T) {
	for _, b := range may() {
		if x, err := outbox.Encode(b); err != api.OK || string(x) != octetsOf(b) {
			t.Errorf("P8.2: Encode of %s: %d octets, %v, want %d", short(b), len(x), err, len(octetsOf(b)))
		}
	}
}

// TestDecodeOfEncodeIsTheBox: and Encode of Decode is the octets.
func TestDecodeOfEncodeIsTheBox(t *testing.T) {
	all := may()
	r := chanceOf(83)
	for range 500 {
		all = append(all, r.box())
	}
	for _, b := range all {
		x, err := outbox.Encode(b)
		if err != api.OK {
			t.Fatalf("P8.3: Encode of %s: %v", short(b), err)
		}
		got, err := outbox.Decode(x)
		if err != api.OK || tell(got) != tell(b) {
			t.Fatalf("P8.3: Decode of Encode of %s: %s, %v", short(b), short(got), err)
		}
		if y, err := outbox.Encode(got); err != api.OK || string(y) != string(x) {
			t.Fatalf("P8.3: Encode of Decode of %s: other octets, %v", short(b), err)
		}
	}
}

// wrong is octets that Decode refuses.
type wrong struct {
	name   string
	octets string
	want   api.Errno
}

// wrongs are octets that are refused, each for one cause.
func wrongs() []wrong {
	x := octetsOf(box(3, 32, 97))
	return []wrong{
		{"nothing", "", api.ErrShort},
		{"Last cut off", x[:7], api.ErrShort},
		{"Last alone", x[:8], api.ErrShort},
		{"half a count", x[:9], api.ErrShort},
		{"no items", x[:10], api.ErrShort},
		{"an item more than there is", head(3, 1), api.ErrShort},
		{"256 items that are not there", head(3, 256), api.ErrShort},
		{"a Name of 255 octets that are not there", head(3, 1) + octets(32, 8) + "\xff", api.ErrShort},
		{"no Arg", head(3, 1) + entry(32, "a", ""), api.ErrShort},
		{"a text of an Arg cut off", head(3, 1) + entry(32, "a", "\x04\x02x"), api.ErrShort},

		{"257 items", head(9, 257), api.ErrCount},
		{"257 items that are there", octetsOf(box(9, run(32, most+1)...)), api.ErrCount},
		{"512 items", head(9, 512), api.ErrCount},
		{"65535 items", head(9, 65535), api.ErrCount},
		{"a count with its lowest octet first", head(9, 1<<9) + entry(32, "a", "\x00"), api.ErrCount},

		{"an Arg of another kind", head(3, 1) + entry(32, "a", "\x07"), api.ErrKind},
		{"an Arg of another NaN", head(3, 1) + entry(32, "a", "\x03\xff\xf8\x00\x00\x00\x00\x00\x00"), api.ErrArg},
		{"an Arg of 129 octets", head(3, 1) + entry(32, "a", "\x04\x81"+strings.Repeat("x", 129)), api.ErrLong},
		{"an Arg with a key of none", head(3, 1) + entry(32, "a", "\x06\x01\x00\x00"), api.ErrLong},
		{"an Arg of 33 items", head(3, 1) + entry(32, "a", "\x05\x21"+strings.Repeat("\x00", 33)), api.ErrCount},
		{"an Arg of 513 parts", head(3, 1) + entry(32, "a", "\x05\x10"+strings.Repeat("\x05\x1f"+strings.Repeat("\x00", 31), 16)), api.ErrCount},
		{"an Arg with keys that fall", head(3, 1) + entry(32, "a", "\x06\x02\x01b\x00\x01a\x00"), api.ErrOrder},
		{"an Arg nine deep", head(3, 1) + entry(32, "a", strings.Repeat("\x05\x01", 8)+"\x00"), api.ErrDeep},
		{"the last Arg of another kind", head(3, 2) + entry(32, "a", "\x00") + entry(33, "b", "\xff"), api.ErrKind},

		{"an octet behind", x + "\x00", api.ErrTail},
		{"an octet behind no items", head(3, 0) + "\x01", api.ErrTail},
		{"an item behind the last", x + entry(98, "a", "\x00"), api.ErrTail},
		{"a second box", x + x, api.ErrTail},
		{"an octet behind the most items", octetsOf(box(8, run(32, most)...)) + "\x00", api.ErrTail},

		{"a Name of no octets", head(3, 1) + entry(32, "", "\x00"), api.ErrState},
		{"the last Name of no octets", head(3, 2) + entry(32, "a", "\x00") + entry(33, "", "\x00"), api.ErrState},
		{"a Name of 17 octets", head(3, 1) + entry(32, strings.Repeat("n", 17), "\x00"), api.ErrState},
		{"a Name of 255 octets", head(3, 1) + entry(32, strings.Repeat("n", 255), "\x00"), api.ErrState},
		{"the ID 31", octetsOf(box(3, 31)), api.ErrState},
		{"the ID 0", octetsOf(box(3, 0)), api.ErrState},
		{"the ID 128, Last 3", octetsOf(box(3, 128)), api.ErrState},
		{"the ID 32, Last 0", octetsOf(box(0, 32)), api.ErrState},
		{"two of one ID", octetsOf(box(3, 32, 32)), api.ErrState},
		{"IDs that fall", octetsOf(box(3, 97, 96)), api.ErrState},
		{"an ID with its lowest octet first", head(3, 1) + entry(32<<56, "a", "\x00"), api.ErrState},
		{"Last with its lowest octet first", head(3<<56, 0), api.ErrState},
	}
}

// great are numbers that no Last and no ID may be, those that come out as others in fewer bits among them.
func great() []uint64 {
	return []uint64{32*(lastSeq+1) + 1, 1 << 56, 1<<59 + 32, 1<<62 - 1, 1 << 62, 1<<62 + 1, 1<<62 + 3, 1<<62 + 32, math.MaxInt64, 1 << 63, 1<<63 + 3, 1<<63 + 32, 1<<63 + 1<<62, math.MaxUint64 - 31, math.MaxUint64}
}

// greatWrongs are boxes with a number that is too great.
func greatWrongs() []wrong {
	l := []wrong{{"Last 2^40 + 1", head(lastSeq+1, 0), api.ErrState}}
	for _, n := range great() {
		name := strconv.FormatUint(n, 16)
		l = append(l, wrong{"Last " + name, head(n, 0), api.ErrState})
		l = append(l, wrong{"an item, Last " + name, head(n, 1) + entry(32, "a", "\x00"), api.ErrState})
		l = append(l, wrong{"the ID " + name, head(lastSeq, 1) + entry(n, "a", "\x00"), api.ErrState})
		l = append(l, wrong{"the second ID " + name, head(3, 2) + entry(32, "a", "\x00") + entry(n, "b", "\x00"), api.ErrState})
		l = append(l, wrong{"the ID ahead " + name, head(3, 2) + entry(n, "a", "\x00") + entry(97, "b", "\x00"), api.ErrState})
		l = append(l, wrong{"Last and ID " + name, head(n, 1) + entry(n, "a", "\x00"), api.ErrState})
		// In the order of the octets: such a number is told behind all else.
		l = append(l, wrong{"too few octets, Last " + name, head(n, 1), api.ErrShort})
		l = append(l, wrong{"too many items, Last " + name, head(n, 257), api.ErrCount})
		l = append(l, wrong{"an Arg, the ID " + name, head(3, 1) + entry(n, "a", "\x07"), api.ErrKind})
		l = append(l, wrong{"an octet behind, Last " + name, head(n, 0) + "\x00", api.ErrTail})
	}
	return l
}

// twoWrongs are octets that are refused for two causes or more, of which the first is told.
func twoWrongs() []wrong {
	long := strings.Repeat("n", 17)
	return []wrong{
		{"257 items, none there", head(3, 257), api.ErrCount},
		{"257 items, the first of another kind", head(3, 257) + entry(32, "a", "\x07"), api.ErrCount},
		{"257 items, an octet behind", octetsOf(box(9, run(32, most+1)...)) + "\x00", api.ErrCount},
		{"half a count, its first octet too great", octets(3, 8) + "\xff", api.ErrShort},
		{"two Args that may not be", head(3, 2) + entry(32, "a", "\x07") + entry(33, "b", "\x04\x81"), api.ErrKind},
		{"two Args that may not be, turned round", head(3, 2) + entry(32, "a", "\x04\x81") + entry(33, "b", "\x07"), api.ErrLong},
		{"an Arg, then too few octets", head(3, 2) + entry(32, "a", "\x07"), api.ErrKind},
		{"an Arg, an octet behind", head(3, 1) + entry(32, "a", "\x09") + "\x00", api.ErrKind},
		{"a Name of none, an Arg", head(3, 1) + entry(32, "", "\x07"), api.ErrKind},
		{"a Name of none, no Arg", head(3, 1) + entry(32, "", ""), api.ErrShort},
		{"a Name of none, an octet behind", head(3, 1) + entry(32, "", "\x00") + "\x00", api.ErrTail},
		{"a Name of 17, cut off", head(3, 1) + octets(32, 8) + "\x11" + long[:16], api.ErrShort},
		{"a Name of 17, an Arg", head(3, 1) + entry(32, long, "\x07"), api.ErrKind},
		{"a Name of 17, the next item cut off", head(3, 2) + entry(32, long, "\x00") + octets(33, 7), api.ErrShort},
		{"a Name of 17, an octet behind", head(3, 1) + entry(32, long, "\x00") + "\x00", api.ErrTail},
		{"the ID 31, an Arg", head(3, 1) + entry(31, "a", "\x07"), api.ErrKind},
		{"the ID 31, an octet behind", head(3, 1) + entry(31, "a", "\x00") + "\x00", api.ErrTail},
		{"IDs that fall, an octet behind", octetsOf(box(3, 97, 96)) + "\x00", api.ErrTail},
		{"IDs that fall, cut off", octetsOf(box(3, 97, 96, 98))[:60], api.ErrShort},
		{"the Last 2^40 + 1, an octet behind", head(lastSeq+1, 0) + "\x00", api.ErrTail},
	}
}

func TestDecode(t *testing.T) {
	for _, b := range may() {
		mustDecode(t, "a box", octetsOf(b), b, api.OK)
	}
	mustDecode(t, "256 items", octetsOf(box(8, run(32, most)...)), box(8, run(32, most)...), api.OK)
}

func TestDecodeRefuses(t *testing.T) {
	for _, w := range slices.Concat(wrongs(), greatWrongs(), twoWrongs()) {
		mustDecode(t, w.name, w.octets, outbox.Box{}, w.want)
		// The words of the chapter, held against the error that is written out.
		if _, err := decoded(w.octets); err != w.want {
			t.Errorf("%s: %v by the chapter's words, %v is written", w.name, err, w.want)
		}
	}
	if b, err := outbox.Decode(nil); err != api.ErrShort || !isZero(b) {
		t.Errorf("P1, P8.2: Decode(nil): %s, %v", short(b), err)
	}
}

// TestDecodeOfOctetsCutOff: anywhere, it ends ahead; and with anything behind, something is left.
func TestDecodeOfOctetsCutOff(t *testing.T) {
	boxes := []outbox.Box{box(0), box(3, 32, 96, 97), box(8, run(32, most)...), with(1, effect("x", ofParts(512))), with(2, effect("n", record("a b", text("x"), list())))}
	for _, b := range boxes {
		x := octetsOf(b)
		for n := range len(x) {
			mustDecode(t, "octets cut off", x[:n], outbox.Box{}, api.ErrShort)
		}
		for octet := range 256 {
			mustDecode(t, "an octet more", x+string([]byte{byte(octet)}), outbox.Box{}, api.ErrTail)
		}
	}
}

// TestDecodeOfAnyCount: against as many items as there are, fewer and more.
func TestDecodeOfAnyCount(t *testing.T) {
	for _, there := range []int{0, 1, 2, 255, 256, 257, 300} {
		items := octetsOf(box(20, run(32, there)...))[10:]
		for count := range 600 {
			want, err := outbox.Box{}, api.OK
			switch {
			case count > most:
				err = api.ErrCount
			case count > there:
				err = api.ErrShort
			case count < there:
				err = api.ErrTail
			default:
				want = box(20, run(32, there)...)
			}
			mustDecode(t, fmt.Sprintf("%d items, a count of %d", there, count), head(20, count)+items, want, err)
		}
	}
}

// TestDecodeOfAnyName: of any length that an octet tells.
func TestDecodeOfAnyName(t *testing.T) {
	for n := range 256 {
		name := strings.Repeat("n", n)
		want, err := outbox.Box{}, api.ErrState
		if n >= 1 && n <= longest {
			want, err = outbox.Box{Last: 3, Items: []api.Item{{ID: 97, Effect: effect(name, text("x"))}}}, api.OK
		}
		mustDecode(t, "any Name", head(3, 1)+entry(97, name, "\x04\x01x"), want, err)
	}
}

// TestDecodeByChance: octets turned, cut off, put in, and any octets, against the chapter's words.
func TestDecodeByChance(t *testing.T) {
	r := chanceOf(82)
	for range 8000 {
		x := []byte(octetsOf(r.box()))
		for range r.Intn(4) {
			at := r.Intn(len(x))
			switch r.Intn(4) {
			case 0:
				x[at] ^= byte(1 << r.Intn(8))
			case 1:
				x[at] = byte(r.Intn(8))
			case 2:
				x = slices.Insert(x, at, byte(r.Intn(40)))
			case 3:
				x = append(x[:at:at], x[min(len(x), at+1+r.Intn(3)*r.Intn(20)):]...)
			}
			if len(x) == 0 {
				break
			}
		}
		want, err := decoded(string(x))
		mustDecode(t, "octets by chance", string(x), want, err)
	}
	for range 5000 {
		x := make([]byte, r.Intn(60))
		for i := range x {
			x[i] = byte(r.Intn(1 << r.Intn(9)))
		}
		want, err := decoded(string(x))
		mustDecode(t, "any octets", string(x), want, err)
	}
}

// TestEncodeOfDecodeIsTheOctets: whatever Decode takes.
func TestEncodeOfDecodeIsTheOctets(t *testing.T) {
	r := chanceOf(84)
	taken := 0
	for range 5000 {
		x := []byte(octetsOf(r.box()))
		for range 1 + r.Intn(2) {
			x[r.Intn(len(x))] ^= byte(1 << r.Intn(8))
		}
		b, err := outbox.Decode(x)
		if err != api.OK {
			continue
		}
		taken++
		if y, err := outbox.Encode(b); err != api.OK || string(y) != string(x) {
			t.Fatalf("P8.3: Encode of Decode of %x: %x, %v", x, y, err)
		}
	}
	if taken < 500 {
		t.Errorf("only %d of the boxes were taken: the test tells little", taken)
	}
}
