package pack_test

import (
	"math"
	"math/rand"
	"slices"
	"strconv"
	"strings"

	"fanlight/api"
)

const (
	kindTruth  = 1
	kindNumber = 2
	kindText   = 3
	kindList   = 4
	kindRecord = 5
)

const (
	minusZero = 1 << 63
	plusInf   = 0x7ff0000000000000
	minusInf  = 0xfff0000000000000
	oneNaN    = 0x7ff8000000000000
)

func nothing() api.Value {
	return api.Value{}
}

func truth(bits uint64) api.Value {
	return api.Value{Kind: kindTruth, Bits: bits}
}

func number(f float64) api.Value {
	return bits(math.Float64bits(f))
}

func bits(b uint64) api.Value {
	return api.Value{Kind: kindNumber, Bits: b}
}

func text(s string) api.Value {
	return api.Value{Kind: kindText, Text: s}
}

func list(items ...api.Value) api.Value {
	return api.Value{Kind: kindList, Items: items}
}

// record takes its keys in one text, a space between two.
func record(keys string, items ...api.Value) api.Value {
	return api.Value{Kind: kindRecord, Keys: strings.Fields(keys), Items: items}
}

func repeat(s string, n int) string {
	return strings.Repeat(s, n)
}

// wide is a list of n nothings.
func wide(n int) api.Value {
	return list(make([]api.Value, n)...)
}

// deep is v within so many lists that it is the n-th of parts within each other.
func deep(n int, v api.Value) api.Value {
	for range n - 1 {
		v = list(v)
	}
	return v
}

// ofParts is a list of n parts, itself counted, 3 deep: n is at most 1 + 32*33.
func ofParts(n int) api.Value {
	l := list()
	for n--; n > 0; {
		inner := min(n, 1+api.MaxItems)
		l.Items = append(l.Items, wide(inner-1))
		n -= inner
	}
	return l
}

// wideRecord is a record of n keys, k00 and on, its items numbers from 0 on.
func wideRecord(n int) api.Value {
	r := record("")
	for i := range n {
		r.Keys = append(r.Keys, "k"+strconv.Itoa(i/10)+strconv.Itoa(i%10))
		r.Items = append(r.Items, number(float64(i)))
	}
	return r
}

// withinItself is a list whose items are itself.
func withinItself(n int) api.Value {
	v := wide(n)
	for i := range v.Items {
		v.Items[i] = v
	}
	return v
}

// tell writes v out, so that two values are one just if what is told is one; nil and empty lists are told alike.
func tell(v api.Value) string {
	var s strings.Builder
	s.WriteString("(" + strconv.Itoa(v.Kind) + " " + strconv.FormatUint(v.Bits, 16) + " " + strconv.Quote(v.Text))
	for _, k := range v.Keys {
		s.WriteString(" " + strconv.Quote(k))
	}
	for _, i := range v.Items {
		s.WriteString(" " + tell(i))
	}
	return s.String() + ")"
}

// isZero tells whether v is the zero value, nil and empty lists being one.
func isZero(v api.Value) bool {
	return tell(v) == tell(api.Value{})
}

// may are values that may be: every kind, every named edge from within.
func may() []api.Value {
	return []api.Value{
		nothing(), truth(0), truth(1),
		number(0), bits(minusZero), number(1), number(-1), number(0.5), bits(1), bits(math.MaxUint64 >> 12), bits(plusInf), bits(minusInf), bits(oneNaN), bits(0x0102030405060708),
		text(""), text("a"), text("ab"), text("\xff\x00"), text("é"), text(repeat("x", api.MaxText-1)), text(repeat("x", api.MaxText)),
		list(), list(nothing()), list(truth(1), text("a")), list(list(), record("")), wide(api.MaxItems),
		record(""), record("a", nothing()), record("a b", text("x"), text("y")), record("a aa", number(1), number(2)), record("A a é", text(""), list(), record("")),
		record(repeat("k", api.MaxName), number(2)), record("a "+repeat("k", api.MaxName)+" \xff", list(nothing()), record("a", truth(1)), text("\x06")),
		{Kind: kindRecord, Keys: []string{"\x00", "\x00\x00", "\x01"}, Items: []api.Value{truth(0), truth(1), nothing()}},
		wideRecord(api.MaxItems), deep(api.MaxDepth, text("down")), deep(api.MaxDepth, list()), ofParts(api.MaxNodes - 1), ofParts(api.MaxNodes),
		{Keys: []string{}, Items: []api.Value{}}, {Kind: kindText, Keys: []string{}}, {Kind: kindList, Keys: []string{}, Items: []api.Value{}}, {Kind: kindRecord, Keys: []string{}, Items: []api.Value{}},
	}
}

// some are values that may be, from a fixed rule.
func some(n int) []api.Value {
	r := rand.New(rand.NewSource(3))
	var l []api.Value
	for range n {
		l = append(l, someValue(r, 1))
	}
	return l
}

func someValue(r *rand.Rand, depth int) api.Value {
	kinds := 6
	if depth == 5 {
		kinds = 4
	}
	switch r.Intn(kinds) {
	case kindTruth:
		return truth(uint64(r.Intn(2)))
	case kindNumber:
		return bits([]uint64{0, minusZero, 1, minusZero | 1, plusInf, minusInf, oneNaN, math.Float64bits(r.NormFloat64())}[r.Intn(8)])
	case kindText:
		return text(repeat("\x00b\xff"[r.Intn(3):][:1], r.Intn(api.MaxText+1)))
	case kindList:
		l := list()
		for range r.Intn(4) {
			l.Items = append(l.Items, someValue(r, depth+1))
		}
		return l
	case kindRecord:
		v := record("")
		for _, k := range []string{"a", "aa", "b", "\xff"} {
			if r.Intn(2) == 0 {
				v.Keys = append(v.Keys, k)
				v.Items = append(v.Items, someValue(r, depth+1))
			}
		}
		return v
	}
	return nothing()
}

// octetsOf writes v by the chapter's words alone, whether it may be or not.
func octetsOf(v api.Value) string {
	switch v.Kind {
	case kindTruth:
		return string([]byte{byte(1 + v.Bits)})
	case kindNumber:
		return "\x03" + eight(v.Bits)
	case kindText:
		return "\x04" + short(v.Text)
	case kindList:
		return "\x05" + one(len(v.Items)) + strings.Join(each(v.Items), "")
	case kindRecord:
		s := "\x06" + one(len(v.Items))
		for i, item := range each(v.Items) {
			s += short(v.Keys[i]) + item
		}
		return s
	}
	return "\x00"
}

func one(n int) string {
	return string([]byte{byte(n)})
}

func short(s string) string {
	return one(len(s)) + s
}

func each(items []api.Value) []string {
	var l []string
	for _, item := range items {
		l = append(l, octetsOf(item))
	}
	return l
}

func eight(b uint64) string {
	var l []byte
	for range 8 {
		l = append(l, byte(b))
		b >>= 8
	}
	slices.Reverse(l)
	return string(l)
}
