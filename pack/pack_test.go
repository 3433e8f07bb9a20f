package pack_test

import (
	"bytes"
	"math/rand"
	"testing"

	"fanlight/api"
	"fanlight/pack"
	"fanlight/value"
)

func TestOctetsOfEachKind(t *testing.T) {
	for _, c := range []struct {
		v    api.Value
		want string
	}{
		{nothing(), "\x00"},
		{truth(0), "\x01"},
		{truth(1), "\x02"},
		{number(0), "\x03\x00\x00\x00\x00\x00\x00\x00\x00"},
		{bits(minusZero), "\x03\x80\x00\x00\x00\x00\x00\x00\x00"},
		{number(1), "\x03\x3f\xf0\x00\x00\x00\x00\x00\x00"},
		{bits(0x0102030405060708), "\x03\x01\x02\x03\x04\x05\x06\x07\x08"},
		{bits(plusInf), "\x03\x7f\xf0\x00\x00\x00\x00\x00\x00"},
		{bits(minusInf), "\x03\xff\xf0\x00\x00\x00\x00\x00\x00"},
		{bits(oneNaN), "\x03\x7f\xf8\x00\x00\x00\x00\x00\x00"},
		{text(""), "\x04\x00"},
		{text("a\xff"), "\x04\x02a\xff"},
		{text(repeat("x", 128)), "\x04\x80" + repeat("x", 128)},
		{list(), "\x05\x00"},
		{list(truth(1), text("a")), "\x05\x02\x02\x04\x01a"},
		{list(list(truth(0)), nothing()), "\x05\x02\x05\x01\x01\x00"},
		{wide(32), "\x05\x20" + repeat("\x00", 32)},
		{record(""), "\x06\x00"},
		{record("a", truth(1)), "\x06\x01\x01a\x02"},
		{record("a bc", text(""), record("d", list())), "\x06\x02\x01a\x04\x00\x02bc\x06\x01\x01d\x05\x00"},
		{record(repeat("k", 16), nothing()), "\x06\x01\x10" + repeat("k", 16) + "\x00"},
		{deep(8, truth(0)), repeat("\x05\x01", 7) + "\x01"},
	} {
		if b, err := pack.Encode(c.v); string(b) != c.want || err != api.OK {
			t.Errorf("P3.1: Encode(%s): %x, %v, want %x", tell(c.v), b, err, c.want)
		}
		if v, n, err := pack.Take([]byte(c.want)); tell(v) != tell(c.v) || n != len(c.want) || err != api.OK {
			t.Errorf("P3.1: Take(%x): %s, %d, %v, want %s", c.want, tell(v), n, err, tell(c.v))
		}
		if v, err := pack.Decode([]byte(c.want)); tell(v) != tell(c.v) || err != api.OK {
			t.Errorf("P3.1: Decode(%x): %s, %v, want %s", c.want, tell(v), err, tell(c.v))
		}
	}
}

// TestEncodeRefuses: what Encode answers is what value.Check does.
func TestEncodeRefuses(t *testing.T) {
	for _, c := range []struct {
		v    api.Value
		want api.Errno
	}{
		{api.Value{Kind: 6}, api.ErrState},
		{api.Value{Kind: -1}, api.ErrState},
		{api.Value{Bits: 1}, api.ErrState},
		{truth(2), api.ErrState},
		{bits(plusInf + 1), api.ErrState},
		{bits(oneNaN | minusZero), api.ErrState},
		{text(repeat("x", 129)), api.ErrState},
		{api.Value{Kind: kindText, Items: []api.Value{nothing()}}, api.ErrState},
		{wide(33), api.ErrState},
		{wideRecord(33), api.ErrState},
		{record("b a", nothing(), nothing()), api.ErrState},
		{record("a a", nothing(), nothing()), api.ErrState},
		{record("a", nothing(), nothing()), api.ErrState},
		{record("a b", nothing()), api.ErrState},
		{api.Value{Kind: kindRecord, Keys: []string{""}, Items: []api.Value{nothing()}}, api.ErrState},
		{record(repeat("k", 17), nothing()), api.ErrState},
		{deep(9, nothing()), api.ErrDeep},
		{ofParts(513), api.ErrCount},
		{withinItself(1), api.ErrDeep},
		{withinItself(32), api.ErrDeep},
		{list(deep(8, truth(7)), truth(7)), api.ErrDeep},
		{list(truth(7), deep(8, nothing())), api.ErrState},
	} {
		if got := value.Check(c.v); got != c.want {
			t.Fatalf("value.Check: %v, want %v", got, c.want)
		}
		if b, err := pack.Encode(c.v); len(b) != 0 || err != c.want {
			t.Errorf("P3.1: Encode of a value that may not be (kind %d): %x, %v, want %v", c.v.Kind, b, err, c.want)
		}
	}
}

// refused are octets that no value has, each with its error.
func refused() map[string]api.Errno {
	down := repeat("\x05\x01", 7) // what comes behind it is 8 deep
	all := map[string]api.Errno{
		"":                                 api.ErrShort,
		"\x03":                             api.ErrShort,
		"\x03\x00\x00\x00\x00\x00\x00\x00": api.ErrShort,
		"\x04":                             api.ErrShort,
		"\x04\x01":                         api.ErrShort,
		"\x04\x80" + repeat("x", 127):      api.ErrShort,
		"\x05":                             api.ErrShort,
		"\x05\x01":                         api.ErrShort,
		"\x05\x02\x00":                     api.ErrShort,
		"\x05\x20" + repeat("\x00", 31):    api.ErrShort,
		"\x06":                             api.ErrShort,
		"\x06\x01":                         api.ErrShort,
		"\x06\x01\x01":                     api.ErrShort,
		"\x06\x01\x02a":                    api.ErrShort,
		"\x06\x01\x01a":                    api.ErrShort,
		"\x06\x02\x01a\x00":                api.ErrShort,
		"\x06\x02\x01a\x00\x01b":           api.ErrShort,

		"\x05\x01\x07":             api.ErrKind,
		"\x05\x02\x00\x80":         api.ErrKind,
		"\x06\x01\x01a\x07":        api.ErrKind,
		"\x06\x02\x01a\x00\x01b9x": api.ErrKind,

		"\x04\x81" + repeat("x", 129):                      api.ErrLong,
		"\x04\xff" + repeat("x", 255):                      api.ErrLong,
		"\x06\x01\x00\x00":                                 api.ErrLong,
		"\x06\x01\x11" + repeat("k", 17) + "\x00":          api.ErrLong,
		"\x06\x01\xff" + repeat("k", 255) + "\x00":         api.ErrLong,
		"\x06\x02\x01a\x00\x00\x00":                        api.ErrLong,
		"\x06\x02\x01a\x00\x11" + repeat("k", 17) + "\x00": api.ErrLong,

		"\x05\x21" + repeat("\x00", 33):           api.ErrCount,
		"\x05\xff" + repeat("\x00", 255):          api.ErrCount,
		"\x06\x21" + octetsOf(wideRecord(33))[2:]: api.ErrCount,

		"\x03\x7f\xf0\x00\x00\x00\x00\x00\x01": api.ErrArg,
		"\x03\x7f\xf8\x00\x00\x00\x00\x00\x01": api.ErrArg,
		"\x03\xff\xf8\x00\x00\x00\x00\x00\x00": api.ErrArg,
		"\x03\xff\xf0\x00\x00\x00\x00\x00\x01": api.ErrArg,
		"\x03\xff\xff\xff\xff\xff\xff\xff\xff": api.ErrArg,

		"\x06\x02\x01b\x00\x01a\x00":              api.ErrOrder,
		"\x06\x02\x01a\x00\x01a\x00":              api.ErrOrder,
		"\x06\x02\x02aa\x00\x01a\x00":             api.ErrOrder,
		"\x06\x02\x01b\x00\x02ab\x00":             api.ErrOrder,
		"\x06\x02\x01\xff\x00\x01\x7f\x00":        api.ErrOrder,
		"\x06\x03\x01a\x00\x01c\x00\x01b\x00":     api.ErrOrder,
		"\x06\x02\x01a\x06\x01\x01c\x00\x01a\x00": api.ErrOrder,
		"\x05\x01\x06\x02\x01b\x00\x01a\x00":      api.ErrOrder,

		down + "\x05\x01\x00":      api.ErrDeep,
		down + "\x06\x01\x01a\x00": api.ErrDeep,

		octetsOf(ofParts(513)):  api.ErrCount,
		octetsOf(ofParts(1057)): api.ErrCount,
	}
	for first := 7; first < 256; first++ {
		all[one(first)] = api.ErrKind
	}
	return all
}

func TestOctetsThatAreNoValue(t *testing.T) {
	for s, want := range refused() {
		mustRefuse(t, s, want)
	}
}

// mustRefuse also asks for an answer without a value.
func mustRefuse(t *testing.T, s string, want api.Errno) {
	t.Helper()
	if v, n, err := pack.Take([]byte(s)); !isZero(v) || n != 0 || err != want {
		t.Errorf("P3.1: Take(%x): %s, %d, %v, want error %v", s, tell(v), n, err, want)
	}
	if v, err := pack.Decode([]byte(s)); !isZero(v) || err != want {
		t.Errorf("P3.1: Decode(%x): %s, %v, want error %v", s, tell(v), err, want)
	}
}

// TestWhichErrorComesFirst: of two faults the one whose octets come first; too many parts behind all others.
func TestWhichErrorComesFirst(t *testing.T) {
	down := repeat("\x05\x01", 7)
	nan := "\x03\x7f\xf0\x00\x00\x00\x00\x00\x01"
	many := octetsOf(ofParts(1057)) // 32 lists of 32 each
	for _, c := range []struct {
		s    string
		want api.Errno
	}{
		// A length is looked at ahead of what it counts.
		{"\x04\x81", api.ErrLong},
		{"\x04\xff\x00", api.ErrLong},
		{"\x06\x01\x00", api.ErrLong},
		{"\x06\x01\x11", api.ErrLong},
		{"\x06\x02\x01b\x00\x00", api.ErrLong},
		{"\x05\x21", api.ErrCount},
		{"\x05\xff\x07", api.ErrCount},
		{"\x06\x21", api.ErrCount},
		{"\x06\x21\x00", api.ErrCount},

		// A key is held against the one ahead when it is whole, ahead of its item.
		{"\x06\x02\x01b\x00\x01a", api.ErrOrder},
		{"\x06\x02\x01b\x00\x01a\x07", api.ErrOrder},
		{"\x06\x02\x01b\x00\x02a", api.ErrShort},
		{"\x06\x02\x01b\x07\x01a\x00", api.ErrKind},
		{"\x06\x02\x01b" + nan + "\x01a\x00", api.ErrArg},
		{"\x06\x02\x01b\x00\x11", api.ErrLong},
		{down[:10] + "\x06\x02\x01b\x05\x01\x00\x01a\x00", api.ErrOrder},
		{down + "\x06\x02\x01b\x00\x01a\x00", api.ErrDeep},

		// A number is held against the one NaN when it is whole.
		{nan[:8], api.ErrShort},
		{"\x05\x02" + nan, api.ErrArg},
		{"\x05\x02" + nan + "\x07", api.ErrArg},
		{"\x05\x02\x07" + nan, api.ErrKind},

		// One part behind another.
		{"\x05\x02\x07\x04\x81", api.ErrKind},
		{"\x05\x02\x04\x81\x07", api.ErrLong},
		{"\x05\x02\x05\x21\x07", api.ErrCount},
		{"\x05\x03\x00\x07", api.ErrKind},

		// Too deep: ahead of whatever the part is, if there is one at all; a list there may yet be empty, or too long.
		{down + "\x05\x01", api.ErrDeep},
		{down + "\x05\x01\x07", api.ErrDeep},
		{down + "\x05\x01" + nan, api.ErrDeep},
		{down + "\x05\x21", api.ErrCount},
		{down + "\x05", api.ErrShort},
		{down + "\x06\x01", api.ErrShort},
		{down + "\x06\x01\x00", api.ErrLong},
		{down + "\x06\x01\x01", api.ErrShort},
		{down + "\x06\x01\x01a", api.ErrDeep},
		{down, api.ErrShort},
		{down + "\x07", api.ErrKind},
		{"\x05\x02\x07" + down + "\x05\x01\x00", api.ErrKind},
		{"\x05\x02" + down[2:] + "\x00\x07", api.ErrKind},
		{"\x05\x02" + down[2:] + "\x05\x01\x00\x07", api.ErrDeep},

		// Too many parts come behind every other fault, wherever it is.
		{many[:len(many)-1], api.ErrShort},
		{many[:len(many)-1] + "\x07", api.ErrKind},
		{many[:len(many)-1] + "\x04\x81", api.ErrLong},
		{many[:len(many)-1] + "\x05\x21", api.ErrCount},
		{many[:len(many)-1] + nan, api.ErrArg},
		{many[:len(many)-1] + "\x06\x02\x01b\x00\x01a", api.ErrOrder},
		{many[:len(many)-1] + down[:10] + "\x05\x01\x00", api.ErrDeep},
		{many[:len(many)-1] + "\x06\x01\x01b\x06\x02\x01b\x00\x01a", api.ErrOrder},
		{many + "\x00", api.ErrCount}, // ahead of what is left behind

		// What is behind the value is not looked at, but by Decode.
		{octetsOf(ofParts(513)) + "\x07", api.ErrCount},
	} {
		mustRefuse(t, c.s, c.want)
	}
}

// TestPartsOfTheWhole: 512 parts may be, 513 may not, whichever parts they are.
func TestPartsOfTheWhole(t *testing.T) {
	fields := record("")
	for i := range 32 {
		fields.Keys = append(fields.Keys, string([]byte{byte(i)}))
		fields.Items = append(fields.Items, wide(15))
	}
	fields.Items[31] = wide(14) // 1 + 31*16 + 15
	for _, v := range []api.Value{fields, ofParts(512)} {
		s := octetsOf(v)
		if got, n, err := pack.Take([]byte(s)); tell(got) != tell(v) || n != len(s) || err != api.OK {
			t.Errorf("P3.1: Take of 512 parts: %d octets, %v", n, err)
		}
		mustRefuse(t, s[:len(s)-1]+"\x05\x01\x00", api.ErrCount)
	}
}

// TestTooManyPartsEnd: far more parts than may be are read to their end, without a value of them.
func TestTooManyPartsEnd(t *testing.T) {
	s := "\x00"
	for range 4 {
		s = "\x05\x20" + repeat(s, 32)
	}
	mustRefuse(t, s, api.ErrCount)
	mustRefuse(t, s[:len(s)-1], api.ErrShort)
	b := []byte(s)
	if n := testing.AllocsPerRun(1, func() { pack.Take(b) }); n > 5000 {
		t.Errorf("P1: Take of far too many parts asks for memory %v times", n)
	}
}

// TestWhatIsLeft: Take leaves what is behind the value, whatever it is; Decode refuses it.
func TestWhatIsLeft(t *testing.T) {
	for _, v := range append(may(), some(100)...) {
		s := octetsOf(v)
		for _, tail := range []string{"\x00", "\x07", "\xff\xff", "\x05\x21", s} {
			b := []byte(s + tail)
			if got, n, err := pack.Take(b); tell(got) != tell(v) || n != len(s) || err != api.OK {
				t.Errorf("P3.1: Take(%x): %s, %d, %v, want %d octets", b, tell(got), n, err, len(s))
			}
			if got, err := pack.Decode(b); !isZero(got) || err != api.ErrTail {
				t.Errorf("P3.1: Decode(%x): %s, %v, want error %v", b, tell(got), err, api.ErrTail)
			}
		}
	}
}

// TestEndsWithin: octets that end within the value end too early, wherever that is.
func TestEndsWithin(t *testing.T) {
	for _, v := range append(may(), some(100)...) {
		s := octetsOf(v)
		for n := range len(s) {
			mustRefuse(t, s[:n], api.ErrShort)
		}
	}
}

func TestThereAndBack(t *testing.T) {
	for _, v := range append(may(), some(2000)...) {
		b, err := pack.Encode(v)
		if string(b) != octetsOf(v) || err != api.OK {
			t.Fatalf("P3.1: Encode(%s): %x, %v", tell(v), b, err)
		}
		back, err := pack.Decode(b)
		if tell(back) != tell(v) || !value.Same(back, v) || err != api.OK {
			t.Fatalf("P3.2: Decode(Encode(%s)): %s, %v", tell(v), tell(back), err)
		}
	}
}

// TestOneWayOnly: of octets from a fixed rule, near to values, those that are taken are what Encode answers.
func TestOneWayOnly(t *testing.T) {
	r := rand.New(rand.NewSource(33))
	values := append(may(), some(300)...)
	taken := 0
	for range 100000 {
		b := []byte(octetsOf(values[r.Intn(len(values))]))
		for range 1 + r.Intn(2) {
			b[r.Intn(len(b))] = byte(r.Intn(9))
		}
		if wayBack(t, b) {
			taken++
		}
	}
	if taken < 1000 {
		t.Errorf("only %d were taken", taken)
	}
}

// TestOneWayOnlyOfAll: all octets of up to six from those that mean something.
func TestOneWayOnlyOfAll(t *testing.T) {
	signs := []byte("\x00\x01\x02\x04\x05\x06\x07")
	var grow func(b []byte)
	grow = func(b []byte) {
		wayBack(t, b)
		if len(b) == 6 {
			return
		}
		for _, sign := range signs {
			grow(append(b[:len(b):len(b)], sign))
		}
	}
	grow(nil)
}

// wayBack tells whether Decode takes b, and asks that it is one with Take, and b with Encode.
func wayBack(t *testing.T, b []byte) bool {
	t.Helper()
	v, n, err := pack.Take(b)
	w, derr := pack.Decode(b)
	if tail := err == api.OK && n < len(b); tail && derr != api.ErrTail || !tail && derr != err {
		t.Fatalf("P3.1: Take(%x): %d, %v, Decode: %v", b, n, err, derr)
	}
	if err != api.OK {
		if !isZero(v) || n != 0 || !isZero(w) {
			t.Fatalf("P4: Take(%x): %s, %d, %s beside an error", b, tell(v), n, tell(w))
		}
		return false
	}
	back, err := pack.Encode(v)
	if !bytes.Equal(back, b[:n]) || err != api.OK {
		t.Fatalf("P3.2: Encode(Take(%x)): %x, %v", b, back, err)
	}
	if derr == api.OK && tell(v) != tell(w) {
		t.Fatalf("P3.1: Decode(%x): %s, Take: %s", b, tell(w), tell(v))
	}
	return derr == api.OK
}

// TestNilAndEmpty: P1: no octets at all, nil or empty, are one; so are a value's lists.
func TestNilAndEmpty(t *testing.T) {
	for _, b := range [][]byte{nil, {}} {
		if v, n, err := pack.Take(b); !isZero(v) || n != 0 || err != api.ErrShort {
			t.Errorf("P1, P3.1: Take of no octets: %s, %d, %v", tell(v), n, err)
		}
		if v, err := pack.Decode(b); !isZero(v) || err != api.ErrShort {
			t.Errorf("P1, P3.1: Decode of no octets: %s, %v", tell(v), err)
		}
	}
	for kind, want := range []string{0: "\x00", kindTruth: "\x01", kindNumber: "\x03" + repeat("\x00", 8), kindText: "\x04\x00", kindList: "\x05\x00", kindRecord: "\x06\x00"} {
		b, err := pack.Encode(api.Value{Kind: kind, Keys: []string{}, Items: []api.Value{}})
		if string(b) != want || err != api.OK {
			t.Errorf("P1: Encode of kind %d with empty lists: %x, %v", kind, b, err)
		}
	}
}
