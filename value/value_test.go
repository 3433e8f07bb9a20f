package value_test

import (
	"slices"
	"strings"
	"testing"

	"fanlight/api"
	"fanlight/value"
)

type refused struct {
	name string
	v    api.Value
	err  api.Errno
}

// mayNot are values that may not be, each with what Check is to answer.
func mayNot() []refused {
	rec := func(items int, keys ...string) api.Value {
		return api.Value{Kind: kindRecord, Keys: keys, Items: wide(items, nothing()).Items}
	}
	return []refused{
		{"kind -1", api.Value{Kind: -1}, api.ErrState},
		{"kind 6", api.Value{Kind: 6}, api.ErrState},
		{"the least kind", api.Value{Kind: -1 << 63}, api.ErrState},
		{"the greatest kind", api.Value{Kind: 1<<63 - 1}, api.ErrState},
		{"kind 2^32 + 3", api.Value{Kind: 1<<32 + 3}, api.ErrState},
		{"kind 6 with items", api.Value{Kind: 6, Items: []api.Value{nothing()}}, api.ErrState},
		{"truth 2", truth(2), api.ErrState},
		{"truth 2^32 + 1", truth(1<<32 + 1), api.ErrState},
		{"truth with the sign bit", truth(minusZero), api.ErrState},
		{"truth of 1.0", truth(0x3ff0000000000000), api.ErrState},
		{"a quiet NaN beside the one", bits(oneNaN + 1), api.ErrState},
		{"a signalling NaN", bits(plusInf + 1), api.ErrState},
		{"the one NaN below zero", bits(oneNaN | minusZero), api.ErrState},
		{"all bits", bits(1<<64 - 1), api.ErrState},
		{"a text of 129", text(strings.Repeat("x", api.MaxText+1)), api.ErrState},
		{"a text of 129 octets in 65 runes", text(strings.Repeat("é", api.MaxText/2) + "x"), api.ErrState},
		{"33 items", wide(api.MaxItems+1, nothing()), api.ErrState},
		{"600 items", wide(600, nothing()), api.ErrState},
		{"33 keys", wideRecord(api.MaxItems + 1), api.ErrState},
		{"a key too few", rec(2, "a"), api.ErrState},
		{"a key too many", rec(1, "a", "b"), api.ErrState},
		{"keys without items", rec(0, "a"), api.ErrState},
		{"items without keys", rec(1), api.ErrState},
		{"an empty key", rec(1, ""), api.ErrState},
		{"an empty key, then one", rec(2, "", "a"), api.ErrState},
		{"a key of 17", rec(1, strings.Repeat("k", api.MaxName+1)), api.ErrState},
		{"a last key of 17", rec(2, "a", strings.Repeat("k", api.MaxName+1)), api.ErrState},
		{"a key of 17 octets in 9 runes", rec(1, strings.Repeat("é", 8)+"x"), api.ErrState},
		{"a key twice", rec(2, "a", "a"), api.ErrState},
		{"keys that fall", rec(2, "b", "a"), api.ErrState},
		{"keys that fall at last", rec(3, "a", "c", "b"), api.ErrState},
		{"a longer key first", rec(2, "aa", "a"), api.ErrState},
		{"keys by letters, not octets", rec(2, "a", "B"), api.ErrState},
		{"keys in an order of signed octets", rec(2, "\x80", "a"), api.ErrState},
		{"9 deep", deep(api.MaxDepth+1, nothing()), api.ErrDeep},
		{"20 deep", deep(20, nothing()), api.ErrDeep},
		{"9 deep behind others", list(text("a"), list(), deep(api.MaxDepth, text("b"))), api.ErrDeep},
		{"9 deep by records", record("a", record("a", record("a", record("a", record("a", record("a", record("a", record("a", nothing())))))))), api.ErrDeep},
		{"513 parts", ofParts(api.MaxNodes + 1), api.ErrCount},
		{"1057 parts", ofParts(1 + 32*33), api.ErrCount},
		{"a list within itself", withinItself(kindList, 1), api.ErrDeep},
		{"a list 32 times within itself", withinItself(kindList, api.MaxItems), api.ErrDeep},
		{"a record within itself", withinItself(kindRecord, 3), api.ErrDeep},
	}
}

// strayFields are parts with one field that their kind does not name.
func strayFields() map[string]api.Value {
	m := map[string]api.Value{}
	add := func(name string, v api.Value, change func(*api.Value)) {
		change(&v)
		m[name] = v
	}
	withBits := func(v *api.Value) { v.Bits = 1 }
	withText := func(v *api.Value) { v.Text = "x" }
	withKey := func(v *api.Value) { v.Keys = []string{"a"} }
	withItem := func(v *api.Value) { v.Items = []api.Value{{}} }
	add("nothing with bits", nothing(), withBits)
	add("text with bits", text("a"), withBits)
	add("list with bits", list(nothing()), withBits)
	add("record with bits", record("a", nothing()), withBits)
	add("nothing with text", nothing(), withText)
	add("truth with text", truth(1), withText)
	add("number with text", number(1), withText)
	add("list with text", list(nothing()), withText)
	add("record with text", record("a", nothing()), withText)
	add("nothing with a key", nothing(), withKey)
	add("truth with a key", truth(1), withKey)
	add("number with a key", number(1), withKey)
	add("text with a key", text("a"), withKey)
	add("list with a key", list(nothing()), withKey)
	add("nothing with an item", nothing(), withItem)
	add("truth with an item", truth(1), withItem)
	add("number with an item", number(1), withItem)
	add("text with an item", text("a"), withItem)
	return m
}

func TestCheckLetsPassWhatMayBe(t *testing.T) {
	for _, v := range append(may(), some(300)...) {
		if err := value.Check(v); err != api.OK {
			t.Errorf("P2.1: Check(%s): %v, want OK", tell(v), err)
		}
	}
}

func TestCheckRefusesWhatMayNotBe(t *testing.T) {
	for _, c := range mayNot() {
		if err := value.Check(c.v); err != c.err {
			t.Errorf("P2.1: Check of %s: %v, want %v", c.name, err, c.err)
		}
	}
	for name, v := range strayFields() {
		if err := value.Check(v); err != api.ErrState {
			t.Errorf("P2.1: Check of %s: %v, want ErrState", name, err)
		}
	}
}

// TestCheckRefusesParts: what may not be by itself may not be as a part, wherever it stands.
func TestCheckRefusesParts(t *testing.T) {
	for _, c := range mayNot() {
		if c.err != api.ErrState {
			continue
		}
		for _, v := range []api.Value{list(c.v), list(text("a"), list(), c.v), record("a b", nothing(), c.v), deep(api.MaxDepth, c.v)} {
			if err := value.Check(v); err != api.ErrState {
				t.Errorf("P2.1: Check of %s within %s: %v, want ErrState", c.name, tell(v), err)
			}
		}
	}
	for name, v := range strayFields() {
		if err := value.Check(record("a b", list(v), nothing())); err != api.ErrState {
			t.Errorf("P2.1: Check of %s within a record: %v, want ErrState", name, err)
		}
	}
}

// TestCheckTellsTheFirst: where two faults could be told.
func TestCheckTellsTheFirst(t *testing.T) {
	bad := api.Value{Kind: 9}
	tooDeep := deep(api.MaxDepth+1, nothing())
	full := func(last api.Value) api.Value { // last is the 513th part, on the third level
		v := ofParts(api.MaxNodes + 1)
		inner := v.Items[len(v.Items)-1].Items
		inner[len(inner)-1] = last
		return v
	}
	chain := func(last api.Value) api.Value { // last is the 513th part and the ninth of parts within each other
		v := ofParts(api.MaxNodes + 1 - api.MaxDepth)
		v.Items = append(v.Items, deep(api.MaxDepth, last))
		return v
	}
	fat := wide(api.MaxItems+1, nothing())
	fat.Items[0] = deep(api.MaxDepth, nothing())
	stray := tooDeep
	stray.Text = "x"
	cases := []refused{
		{"the ninth, which may not be", deep(api.MaxDepth+1, bad), api.ErrDeep},
		{"the eighth, which may not be", deep(api.MaxDepth, bad), api.ErrState},
		{"the eighth, with a ninth in it, which may not be", deep(api.MaxDepth, api.Value{Kind: kindList, Bits: 1, Items: []api.Value{nothing()}}), api.ErrState},
		{"the 513th, which may not be", full(bad), api.ErrCount},
		{"the 513th, which is the ninth", chain(nothing()), api.ErrDeep},
		{"the 513th, which is the ninth and may not be", chain(bad), api.ErrDeep},
		{"a part that may not be, then one too deep", list(bad, tooDeep), api.ErrState},
		{"one too deep, then a part that may not be", list(tooDeep, bad), api.ErrDeep},
		{"a part that may not be, then too many", list(bad, ofParts(api.MaxNodes)), api.ErrState},
		{"too many, then a part that may not be", list(ofParts(api.MaxNodes), bad), api.ErrCount},
		{"too many, then one too deep", list(ofParts(api.MaxNodes), tooDeep), api.ErrCount},
		{"one too deep, then too many", list(tooDeep, ofParts(api.MaxNodes)), api.ErrDeep},
		{"33 items, the first one too deep", fat, api.ErrState},
		{"a field of another kind, then one too deep", stray, api.ErrState},
		{"keys that fall, then one too deep", api.Value{Kind: kindRecord, Keys: []string{"b", "a"}, Items: []api.Value{tooDeep, bad}}, api.ErrState},
	}
	for _, c := range cases {
		if err := value.Check(c.v); err != c.err {
			t.Errorf("P2.1: Check of %s: %v, want %v", c.name, err, c.err)
		}
	}
	if n, d, err := value.Size(full(nothing()).Items[0]); n != 33 || d != 2 || err != api.OK {
		t.Fatal("the test's own values are not what it takes them for:", n, d, err)
	}
}

func TestSize(t *testing.T) {
	cases := []struct {
		name  string
		v     api.Value
		parts int
		depth int
	}{
		{"nothing", nothing(), 1, 1},
		{"a text", text("a text of many octets"), 1, 1},
		{"an empty list", list(), 1, 1},
		{"an empty record", record(""), 1, 1},
		{"a list of one", list(nothing()), 2, 2},
		{"a record of two", record("a b", truth(0), truth(1)), 3, 2},
		{"deep first", list(list(list()), text("a")), 4, 3},
		{"deep last", list(text("a"), text("b"), record("k", list(number(1)))), 6, 4},
		{"8 deep", deep(api.MaxDepth, nothing()), 8, 8},
		{"8 deep, the last an empty list", deep(api.MaxDepth, list()), 8, 8},
		{"32 items", wide(api.MaxItems, nothing()), 33, 2},
		{"511 parts", ofParts(api.MaxNodes - 1), 511, 3},
		{"512 parts", ofParts(api.MaxNodes), 512, 3},
	}
	for _, c := range cases {
		if n, d, err := value.Size(c.v); n != c.parts || d != c.depth || err != api.OK {
			t.Errorf("P2.1: Size of %s: %d, %d, %v, want %d, %d, OK", c.name, n, d, err, c.parts, c.depth)
		}
	}
	for _, c := range mayNot() {
		if n, d, err := value.Size(c.v); n != 0 || d != 0 || err != c.err {
			t.Errorf("P2.1, P4: Size of %s: %d, %d, %v, want 0, 0, %v", c.name, n, d, err, c.err)
		}
	}
}

// rising are values in the chapter's order, each once.
func rising() []api.Value {
	return []api.Value{
		nothing(),
		truth(0), truth(1),
		bits(minusInf), number(-1e308), number(-2), number(-1), bits(minusZero | 1), bits(minusZero), number(0), bits(1), number(0.5), number(1), number(2), number(10), bits(plusInf), bits(oneNaN),
		text(""), text("\x00"), text("10"), text("2"), text("A"), text("B"), text("a"), text("a\x00"), text("aa"), text("b"), text("\x7f"), text("\x80"), text("é"), text("\xff"),
		list(), list(nothing()), list(nothing(), nothing()), list(nothing(), truth(0)), list(truth(0)), list(truth(1), truth(0)), list(number(2)), list(number(10)), list(text("a")), list(text("a"), nothing()), list(text("b")),
		list(list()), list(list(), text("z")), list(list(nothing())), list(record("")), list(record("a", nothing())),
		record(""),
		record("a", nothing()), record("a", text("z")), record("a", list(text("z"))),
		record("a aa", nothing(), nothing()),
		record("a b", nothing(), nothing()), record("a b", nothing(), truth(0)), record("a b", truth(0), nothing()),
		record("a b c", nothing(), nothing(), nothing()),
		record("a c", nothing(), nothing()),
		record("b", nothing()), record("b", truth(0)), record("b", list()),
		record("\xff", nothing()),
	}
}

func TestCompareAndSameInOrder(t *testing.T) {
	l := rising()
	for i, a := range l {
		for j, b := range l {
			want := 0
			switch {
			case i < j:
				want = -1
			case i > j:
				want = 1
			}
			if c, err := value.Compare(a, clone(b)); c != want || err != api.OK {
				t.Errorf("P2.1: Compare(%s, %s): %d, %v, want %d, OK", tell(a), tell(b), c, err, want)
			}
			if value.Same(a, clone(b)) != (i == j) {
				t.Errorf("P2.1: Same(%s, %s): %v", tell(a), tell(b), i != j)
			}
		}
	}
}

// TestNilAndEmptyListsAreOne: P1.
func TestNilAndEmptyListsAreOne(t *testing.T) {
	empty := func(kind int) api.Value {
		return api.Value{Kind: kind, Keys: []string{}, Items: []api.Value{}}
	}
	for kind := range 6 {
		bare := api.Value{Kind: kind}
		if c, err := value.Compare(bare, empty(kind)); c != 0 || err != api.OK || !value.Same(list(empty(kind)), list(bare)) {
			t.Errorf("P1, P2.1: kind %d with nil and with empty lists: Compare %d, %v", kind, c, err)
		}
	}
}

func TestCompareAndSameOfWhatMayNotBe(t *testing.T) {
	wrong := mayNot()
	for i, c := range wrong {
		other := wrong[(i+7)%len(wrong)]
		cases := []struct {
			a, b api.Value
			err  api.Errno
		}{
			{c.v, nothing(), c.err}, {nothing(), c.v, c.err}, {c.v, c.v, c.err}, {c.v, other.v, c.err}, {other.v, c.v, other.err},
		}
		for _, x := range cases {
			if n, err := value.Compare(x.a, x.b); n != 0 || err != x.err {
				t.Errorf("P2.1, P4: Compare with %s: %d, %v, want 0, %v", c.name, n, err, x.err)
			}
			if value.Same(x.a, x.b) {
				t.Errorf("P2.1: Same with %s: true", c.name)
			}
		}
	}
	if _, err := value.Compare(deep(9, nothing()), ofParts(513)); err != api.ErrDeep {
		t.Errorf("P2.1: Compare of one too deep and one too big: %v, want ErrDeep", err)
	}
	if _, err := value.Compare(ofParts(513), deep(9, nothing())); err != api.ErrCount {
		t.Errorf("P2.1: Compare of one too big and one too deep: %v, want ErrCount", err)
	}
}

// TestCompareIsAnOrder: P2.4, over values of a fixed rule; sorting by it brings them into one order from whichever they come.
func TestCompareIsAnOrder(t *testing.T) {
	l := append(may(), some(120)...)
	cmp := func(a, b api.Value) int {
		c, err := value.Compare(a, b)
		if err != api.OK || c < -1 || c > 1 {
			t.Fatalf("P2.1: Compare(%s, %s): %d, %v", tell(a), tell(b), c, err)
		}
		return c
	}
	for _, a := range l {
		for _, b := range l {
			c := cmp(a, b)
			if c != -cmp(b, a) {
				t.Errorf("P2.4: Compare of %s and %s is not the other way round of the other", tell(a), tell(b))
			}
			if one := tell(a) == tell(b); (c == 0) != one || value.Same(a, b) != one {
				t.Errorf("P2.4: Compare(%s, %s) is %d, Same %v", tell(a), tell(b), c, value.Same(a, b))
			}
		}
	}
	slices.SortFunc(l, cmp)
	for i := range l {
		for j := range i {
			if cmp(l[j], l[i]) > 0 {
				t.Errorf("P2.4: %s, then %s, does not go on", tell(l[j]), tell(l[i]))
			}
		}
	}
}
