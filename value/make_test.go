package value_test

import (
	"math"
	"math/rand"
	"slices"
	"strconv"
	"strings"

	"fanlight/api"
)

const (
	kindNothing = 0
	kindTruth   = 1
	kindNumber  = 2
	kindText    = 3
	kindList    = 4
	kindRecord  = 5
)

const (
	minusZero = 1 << 63
	plusInf   = 0x7ff0000000000000
	minusInf  = 0xfff0000000000000
	oneNaN    = 0x7ff8000000000000
)

func nothing() api.Value {
	return api.Value{}
}

func truth(bits uint64) api.Value {
	return api.Value{Kind: kindTruth, Bits: bits}
}

func number(f float64) api.Value {
	return bits(math.Float64bits(f))
}

func bits(b uint64) api.Value {
	return api.Value{Kind: kindNumber, Bits: b}
}

func text(s string) api.Value {
	return api.Value{Kind: kindText, Text: s}
}

func list(items ...api.Value) api.Value {
	return api.Value{Kind: kindList, Items: items}
}

// record takes its keys in one text, a space between two.
func record(keys string, items ...api.Value) api.Value {
	return api.Value{Kind: kindRecord, Keys: strings.Fields(keys), Items: items}
}

// wide is a list of n times v.
func wide(n int, v api.Value) api.Value {
	l := list()
	for range n {
		l.Items = append(l.Items, clone(v))
	}
	return l
}

// deep is v within so many lists that it is the n-th of parts within each other.
func deep(n int, v api.Value) api.Value {
	for range n - 1 {
		v = list(v)
	}
	return v
}

// ofParts is a list of n parts, itself counted, 3 deep: n is at most 1 + 32*33.
func ofParts(n int) api.Value {
	l := list()
	for n--; n > 0; {
		inner := min(n, 1+api.MaxItems)
		l.Items = append(l.Items, wide(inner-1, nothing()))
		n -= inner
	}
	return l
}

// wideRecord is a record of n keys, k00 and on, its items numbers from 0 on.
func wideRecord(n int) api.Value {
	r := record("")
	for i := range n {
		r.Keys = append(r.Keys, "k"+strconv.Itoa(i/10)+strconv.Itoa(i%10))
		r.Items = append(r.Items, number(float64(i)))
	}
	return r
}

// withinItself is a list or a record whose items are itself.
func withinItself(kind int, n int) api.Value {
	v := wideRecord(n)
	v.Kind = kind
	if kind == kindList {
		v.Keys = nil
	}
	for i := range v.Items {
		v.Items[i] = v
	}
	return v
}

// clone is a copy by the tests' own hand, nil and empty lists kept as they are.
func clone(v api.Value) api.Value {
	v.Keys = slices.Clone(v.Keys)
	v.Items = slices.Clone(v.Items)
	for i := range v.Items {
		v.Items[i] = clone(v.Items[i])
	}
	return v
}

// tell writes v out, so that two values are one just if what is told is one; nil and empty lists are told alike.
func tell(v api.Value) string {
	var s strings.Builder
	s.WriteString("(" + strconv.Itoa(v.Kind) + " " + strconv.FormatUint(v.Bits, 16) + " " + strconv.Quote(v.Text))
	for _, k := range v.Keys {
		s.WriteString(" " + strconv.Quote(k))
	}
	for _, i := range v.Items {
		s.WriteString(" " + tell(i))
	}
	return s.String() + ")"
}

func keyed(key string) api.Step {
	return api.Step{IsKey: true, Key: key}
}

func at(index int) api.Step {
	return api.Step{Index: index}
}

// path takes texts as keys and ints as indexes.
func path(steps ...any) []api.Step {
	var p []api.Step
	for _, s := range steps {
		switch x := s.(type) {
		case string:
			p = append(p, keyed(x))
		case int:
			p = append(p, at(x))
		}
	}
	return p
}

// may are values that may be: every kind, every named edge from within.
func may() []api.Value {
	return []api.Value{
		nothing(), truth(0), truth(1),
		number(0), bits(minusZero), number(1), number(-1), number(0.5), bits(1), bits(plusInf), bits(minusInf), bits(oneNaN),
		text(""), text("a"), text("b"), text("ab"), text("\xff\x00"), text("é"), text(strings.Repeat("x", api.MaxText)),
		list(), list(nothing()), list(truth(1), text("a")), list(list(), record("")), wide(api.MaxItems, truth(0)),
		record(""), record("a", nothing()), record("a", truth(1)), record("b", truth(1)), record("a b", text("x"), text("y")),
		record(strings.Repeat("k", api.MaxName), number(2)), record("a aa", number(1), number(2)), record("A a é", text(""), list(), record("")),
		wideRecord(api.MaxItems), deep(api.MaxDepth, text("down")), ofParts(api.MaxNodes),
		{Kind: kindNothing, Keys: []string{}, Items: []api.Value{}}, {Kind: kindText, Keys: []string{}}, {Kind: kindList, Keys: []string{}, Items: []api.Value{}},
	}
}

// some are values from a fixed rule, most of which may be.
func some(n int) []api.Value {
	r := rand.New(rand.NewSource(2))
	var l []api.Value
	for range n {
		l = append(l, someValue(r, 1))
	}
	return l
}

func someValue(r *rand.Rand, depth int) api.Value {
	kinds := 6
	if depth == 5 {
		kinds = 4
	}
	switch r.Intn(kinds) {
	case kindTruth:
		return truth(uint64(r.Intn(2)))
	case kindNumber:
		return bits([]uint64{0, minusZero, 1, minusZero | 1, plusInf, minusInf, oneNaN, math.Float64bits(float64(r.Intn(5) - 2))}[r.Intn(8)])
	case kindText:
		return text(strings.Repeat("\x00b\xff"[r.Intn(3):][:1], r.Intn(3)))
	case kindList:
		l := list()
		for range r.Intn(4) {
			l.Items = append(l.Items, someValue(r, depth+1))
		}
		return l
	case kindRecord:
		v := record("")
		for _, k := range []string{"a", "aa", "b", "\xff"} {
			if r.Intn(2) == 0 {
				v.Keys = append(v.Keys, k)
				v.Items = append(v.Items, someValue(r, depth+1))
			}
		}
		return v
	}
	return nothing()
}
