package value_test

import (
	"strings"
	"testing"

	"fanlight/api"
	"fanlight/value"
)

func sample() api.Value {
	return record("a b c",
		number(1),
		list(text("x"), record("k", truth(1)), list(nothing())),
		record("d e", list(), text("y")))
}

func TestGet(t *testing.T) {
	v := sample()
	cases := []struct {
		path []api.Step
		want api.Value
	}{
		{nil, v},
		{[]api.Step{}, v},
		{path("a"), number(1)},
		{path("b"), v.Items[1]},
		{path("b", 0), text("x")},
		{path("b", 1), record("k", truth(1))},
		{path("b", 1, "k"), truth(1)},
		{path("b", 2), list(nothing())},
		{path("b", 2, 0), nothing()},
		{path("c", "d"), list()},
		{path("c", "e"), text("y")},
		{[]api.Step{{IsKey: true, Key: "b", Index: 7}, {Index: 1, Key: "a"}}, record("k", truth(1))},
	}
	for _, c := range cases {
		if x, err := value.Get(v, c.path); tell(x) != tell(c.want) || err != api.OK {
			t.Errorf("P2.2: Get(sample, %v): %s, %v, want %s", c.path, tell(x), err, tell(c.want))
		}
	}
	for _, w := range may() {
		if x, err := value.Get(w, nil); tell(x) != tell(w) || err != api.OK {
			t.Errorf("P2.2: Get(%s) of no steps: %s, %v", tell(w), tell(x), err)
		}
	}
	all := wideRecord(api.MaxItems)
	for i, k := range all.Keys {
		if x, err := value.Get(all, path(k)); tell(x) != tell(all.Items[i]) || err != api.OK {
			t.Errorf("P2.2: Get of key %s of 32: %s, %v", k, tell(x), err)
		}
	}
	if x, err := value.Get(deep(8, text("down")), path(0, 0, 0, 0, 0, 0, 0)); tell(x) != tell(text("down")) || err != api.OK {
		t.Errorf("P2.2: Get of the eighth within each other: %s, %v", tell(x), err)
	}
}

// astray are paths of sample that lead nowhere, for Get, and for Set if they end there or go on.
var astray = []struct {
	path []api.Step
	err  api.Errno
}{
	{path(0), api.ErrType},
	{path("a", "b"), api.ErrType},
	{path("a", 0), api.ErrType},
	{path("b", "k"), api.ErrType},
	{path("b", 0, 0), api.ErrType},
	{path("b", 0, "x"), api.ErrType},
	{path("b", 1, 0), api.ErrType},
	{path("b", 1, "k", "k"), api.ErrType},
	{path("b", 2, 0, 0), api.ErrType},
	{path("c", 1), api.ErrType},
	{path("c", "d", ""), api.ErrType},
	{path("b", -1), api.ErrIndex},
	{path("b", 4), api.ErrIndex},
	{path("b", -1<<63), api.ErrIndex},
	{path("b", 1<<63-1), api.ErrIndex},
	{path("b", 1<<32), api.ErrIndex},
	{path("b", 2, -1), api.ErrIndex},
	{path("c", "d", 1), api.ErrIndex},
	{path("c", "d", -1), api.ErrIndex},
}

// missing are paths of sample that lead to what is not there: Get refuses them, Set goes astray where they go on.
var missing = []struct {
	path []api.Step
	err  api.Errno
}{
	{path("d"), api.ErrNone},
	{path("0"), api.ErrNone},
	{path("aa"), api.ErrNone},
	{path("A"), api.ErrNone},
	{path("c", "a"), api.ErrNone},
	{path("b", 1, "l"), api.ErrNone},
	{path(""), api.ErrNone},
	{path(strings.Repeat("k", 17)), api.ErrNone},
	{path("b", 3), api.ErrIndex},
	{path("b", 2, 1), api.ErrIndex},
	{path("c", "d", 0), api.ErrIndex},
}

func TestGetAstray(t *testing.T) {
	for _, c := range append(astray, missing...) {
		for _, p := range [][]api.Step{c.path, append(c.path[:len(c.path):len(c.path)], at(0)), append(c.path[:len(c.path):len(c.path)], keyed("a"))} {
			if x, err := value.Get(sample(), p); err != c.err || tell(x) != tell(nothing()) {
				t.Errorf("P2.2, P4: Get(sample, %v): %s, %v, want nothing, %v", p, tell(x), err, c.err)
			}
		}
	}
	long := make([]api.Step, 100000)
	if _, err := value.Get(deep(8, nothing()), long); err != api.ErrType {
		t.Errorf("P2.2: Get of a path longer than the value is deep: %v, want ErrType", err)
	}
	for _, c := range mayNot() {
		for _, p := range [][]api.Step{nil, path(0), path("k00"), path("zz", -1)} {
			if x, err := value.Get(c.v, p); err != c.err || tell(x) != tell(nothing()) {
				t.Errorf("P2.2, P4: Get of %s by %v: %s, %v, want nothing, %v", c.name, p, tell(x), err, c.err)
			}
		}
	}
}

func TestSet(t *testing.T) {
	x := list(text("new"))
	b := sample().Items[1]
	c := sample().Items[2]
	cases := []struct {
		path []api.Step
		want api.Value
	}{
		{nil, x},
		{[]api.Step{}, x},
		{path("a"), record("a b c", x, b, c)},
		{path("b"), record("a b c", number(1), x, c)},
		{path("b", 0), record("a b c", number(1), list(x, b.Items[1], b.Items[2]), c)},
		{path("b", 2), record("a b c", number(1), list(b.Items[0], b.Items[1], x), c)},
		{path("b", 3), record("a b c", number(1), list(b.Items[0], b.Items[1], b.Items[2], x), c)},
		{path("b", 1, "k"), record("a b c", number(1), list(b.Items[0], record("k", x), b.Items[2]), c)},
		{path("b", 1, "j"), record("a b c", number(1), list(b.Items[0], record("j k", x, truth(1)), b.Items[2]), c)},
		{path("b", 1, "k\x00"), record("a b c", number(1), list(b.Items[0], record("k k\x00", truth(1), x), b.Items[2]), c)},
		{path("b", 2, 0), record("a b c", number(1), list(b.Items[0], b.Items[1], list(x)), c)},
		{path("b", 2, 1), record("a b c", number(1), list(b.Items[0], b.Items[1], list(nothing(), x)), c)},
		{path("c", "d", 0), record("a b c", number(1), b, record("d e", list(x), text("y")))},
		{path("0"), record("0 a b c", x, number(1), b, c)},
		{path("bb"), record("a b bb c", number(1), b, x, c)},
		{path("\xff"), record("a b c \xff", number(1), b, c, x)},
		{path("B"), record("B a b c", x, number(1), b, c)},
		{path("k"), record("a b c k", number(1), b, c, x)},
		{path(strings.Repeat("k", 16)), record("a b c "+strings.Repeat("k", 16), number(1), b, c, x)},
		{[]api.Step{{IsKey: true, Key: "b", Index: -1}, {Index: 0, Key: "b"}}, record("a b c", number(1), list(x, b.Items[1], b.Items[2]), c)},
	}
	for _, k := range cases {
		if y, err := value.Set(sample(), k.path, x); tell(y) != tell(k.want) || err != api.OK {
			t.Errorf("P2.2: Set(sample, %v): %s, %v, want %s", k.path, tell(y), err, tell(k.want))
		}
	}
	if y, err := value.Set(record(""), path("a"), truth(1)); tell(y) != tell(record("a", truth(1))) || err != api.OK {
		t.Errorf("P2.2: Set of an empty record's first key: %s, %v", tell(y), err)
	}
	if y, err := value.Set(nothing(), nil, sample()); tell(y) != tell(sample()) || err != api.OK {
		t.Errorf("P2.2: Set of no steps: %s, %v", tell(y), err)
	}
}

func TestSetAstray(t *testing.T) {
	refuses := func(p []api.Step, want api.Errno) {
		t.Helper()
		if y, err := value.Set(sample(), p, truth(1)); err != want || tell(y) != tell(nothing()) {
			t.Errorf("P2.2, P4: Set(sample, %v): %s, %v, want nothing, %v", p, tell(y), err, want)
		}
	}
	for _, c := range astray {
		refuses(c.path, c.err)
	}
	for _, c := range append(astray, missing...) {
		for _, next := range []api.Step{at(0), at(-1), keyed("a"), keyed("")} {
			refuses(append(c.path[:len(c.path):len(c.path)], next), c.err)
		}
	}
	for _, k := range []string{"", strings.Repeat("k", 17), strings.Repeat("é", 8) + "x", strings.Repeat("k", 5000)} {
		refuses(path(k), api.ErrName)
		refuses(path("b", 1, k), api.ErrName)
		refuses(path("b", 0, k), api.ErrType)
	}
}

func TestSetOfFullLists(t *testing.T) {
	rec, short := wideRecord(api.MaxItems), wideRecord(api.MaxItems-1)
	lst, less := wide(api.MaxItems, nothing()), wide(api.MaxItems-1, nothing())
	cases := []struct {
		name string
		v    api.Value
		step api.Step
		err  api.Errno
	}{
		{"a 33rd key", rec, keyed("new"), api.ErrCount},
		{"a 33rd key ahead of all", rec, keyed("a"), api.ErrCount},
		{"a 33rd key that may not be", rec, keyed(""), api.ErrName},
		{"a 33rd key of 17", rec, keyed(strings.Repeat("k", 17)), api.ErrName},
		{"one of 32 keys", rec, keyed("k31"), api.OK},
		{"a 32nd key", short, keyed("new"), api.OK},
		{"a 33rd item", lst, at(32), api.ErrCount},
		{"a 34th item", lst, at(33), api.ErrIndex},
		{"an item ahead of the first of 32", lst, at(-1), api.ErrIndex},
		{"the last of 32 items", lst, at(31), api.OK},
		{"a 32nd item", less, at(31), api.OK},
		{"a 33rd item of 31", less, at(32), api.ErrIndex},
	}
	for _, c := range cases {
		y, err := value.Set(c.v, []api.Step{c.step}, text("x"))
		if err != c.err || err != api.OK && tell(y) != tell(nothing()) {
			t.Errorf("P2.2: Set of %s: %s, %v, want %v", c.name, tell(y), err, c.err)
		}
		within := record("a b", nothing(), list(c.v))
		if _, err := value.Set(within, []api.Step{keyed("b"), at(0), c.step}, text("x")); err != c.err {
			t.Errorf("P2.2: Set of %s further down: %v, want %v", c.name, err, c.err)
		}
	}
}

// TestSetThatGrowsTooFar: Check's error of what follows.
func TestSetThatGrowsTooFar(t *testing.T) {
	cases := []struct {
		name string
		v    api.Value
		path []api.Step
		x    api.Value
		err  api.Errno
	}{
		{"8 deep", deep(7, list()), path(0, 0, 0, 0, 0, 0, 0), nothing(), api.OK},
		{"9 deep", deep(8, list()), path(0, 0, 0, 0, 0, 0, 0, 0), nothing(), api.ErrDeep},
		{"9 deep by a list", deep(8, nothing()), path(0, 0, 0, 0, 0, 0, 0), list(nothing()), api.ErrDeep},
		{"9 deep by a new key", record("a", nothing()), path("b"), deep(8, nothing()), api.ErrDeep},
		{"8 deep by a new key", record("a", nothing()), path("b"), deep(7, nothing()), api.OK},
		{"512 parts", ofParts(511), path(16), nothing(), api.OK},
		{"513 parts", ofParts(512), path(16), nothing(), api.ErrCount},
		{"512 parts by one for another", ofParts(512), path(15), list(), api.OK},
		{"513 parts by two for one", list(nothing(), ofParts(510)), path(0), list(nothing()), api.ErrCount},
		{"512 parts by two for one", list(nothing(), ofParts(509)), path(0), list(nothing()), api.OK},
		{"much for little", list(ofParts(500)), path(0), text("x"), api.OK},
		{"514 parts by 512 for one", list(nothing(), nothing()), path(1), ofParts(512), api.ErrCount},
	}
	for _, c := range cases {
		y, err := value.Set(c.v, c.path, c.x)
		if err != c.err || err != api.OK && tell(y) != tell(nothing()) {
			t.Errorf("P2.2, P4: Set that makes %s: %s, %v, want %v", c.name, tell(y), err, c.err)
		}
		if err == api.OK && value.Check(y) != api.OK {
			t.Errorf("P2.2: Set that makes %s answers what may not be", c.name)
		}
	}
	first := list(list(nothing()), ofParts(509))
	if _, err := value.Set(first, path(0, 0), deep(7, nothing())); err != api.ErrDeep {
		t.Errorf("P2.2: Set of too deep, then too many: %v, want ErrDeep", err)
	}
	second := list(ofParts(509), list(nothing()))
	if _, err := value.Set(second, path(1, 0), deep(7, nothing())); err != api.ErrCount {
		t.Errorf("P2.2: Set of too many, then too deep: %v, want ErrCount", err)
	}
}

// TestSetTellsTheFirst: v's error ahead of x's, both ahead of the path's, the path's ahead of what would follow.
func TestSetTellsTheFirst(t *testing.T) {
	bad, big, low := api.Value{Kind: 6}, ofParts(513), deep(9, nothing())
	cases := []struct {
		v, x api.Value
		path []api.Step
		err  api.Errno
	}{
		{bad, big, nil, api.ErrState},
		{big, bad, nil, api.ErrCount},
		{low, bad, path("a"), api.ErrDeep},
		{list(), bad, path("a"), api.ErrState},
		{list(), big, path(7), api.ErrCount},
		{record(""), low, path(""), api.ErrDeep},
		{bad, nothing(), path("a"), api.ErrState},
		{text("x"), bad, nil, api.ErrState},
		{list(), deep(8, nothing()), path(1), api.ErrIndex},
		{record(""), deep(8, nothing()), path("", "a"), api.ErrNone},
		{record(""), deep(8, nothing()), path(""), api.ErrName},
		{wideRecord(32), deep(8, nothing()), path("new"), api.ErrCount},
		{wide(32, nothing()), deep(8, nothing()), path(32), api.ErrCount},
	}
	for _, c := range cases {
		if y, err := value.Set(c.v, c.path, c.x); err != c.err || tell(y) != tell(nothing()) {
			t.Errorf("P2.2, P4: Set of kinds %d, %d by %v: %s, %v, want nothing, %v", c.v.Kind, c.x.Kind, c.path, tell(y), err, c.err)
		}
	}
	for _, c := range mayNot() {
		if y, err := value.Set(c.v, path(0), nothing()); err != c.err || tell(y) != tell(nothing()) {
			t.Errorf("P2.2, P4: Set in %s: %s, %v, want nothing, %v", c.name, tell(y), err, c.err)
		}
		if y, err := value.Set(list(nothing()), path(0), c.v); err != c.err || tell(y) != tell(nothing()) {
			t.Errorf("P2.2, P4: Set of %s: %s, %v, want nothing, %v", c.name, tell(y), err, c.err)
		}
	}
}

// paths are all paths of v, each part's ahead of its items'.
func paths(v api.Value, here []api.Step) [][]api.Step {
	all := [][]api.Step{here}
	for i, item := range v.Items {
		step := at(i)
		if v.Kind == kindRecord {
			step = keyed(v.Keys[i])
		}
		all = append(all, paths(item, append(here[:len(here):len(here)], step))...)
	}
	return all
}

func begins(p, beginning []api.Step) bool {
	for i, step := range beginning {
		if i == len(p) || p[i] != step {
			return false
		}
	}
	return true
}

// TestWhatWasSetIsGot: P2.3: and every part beside it and beside those in which it lies stays.
func TestWhatWasSetIsGot(t *testing.T) {
	x := record("new", list(text("x")))
	for _, v := range append(some(200), sample()) {
		here := paths(v, nil)
		for _, p := range here {
			setAndLook(t, v, p, x, here)
			part, _ := value.Get(v, p)
			if part.Kind == kindList {
				setAndLook(t, v, append(p[:len(p):len(p)], at(len(part.Items))), x, here)
			}
			if part.Kind == kindRecord {
				setAndLook(t, v, append(p[:len(p):len(p)], keyed("ab")), x, here)
			}
		}
	}
}

func setAndLook(t *testing.T, v api.Value, p []api.Step, x api.Value, all [][]api.Step) {
	t.Helper()
	y, err := value.Set(v, p, x)
	if err != api.OK {
		t.Fatalf("P2.2: Set(%s, %v): %v", tell(v), p, err)
	}
	if got, err := value.Get(y, p); tell(got) != tell(x) || err != api.OK {
		t.Errorf("P2.3: Set(%s, %v), then Get: %s, %v", tell(v), p, tell(got), err)
	}
	kept, fresh := 0, 0
	for _, q := range all {
		if begins(p, q) || begins(q, p) {
			continue
		}
		kept++
		was, _ := value.Get(v, q)
		if is, err := value.Get(y, q); tell(is) != tell(was) || err != api.OK {
			t.Errorf("P2.3: Set(%s, %v): at %v is %s, %v, and was %s", tell(v), p, q, tell(is), err, tell(was))
		}
	}
	for _, q := range paths(y, nil) {
		if !begins(p, q) && !begins(q, p) {
			fresh++
		}
	}
	if kept != fresh {
		t.Errorf("P2.3: Set(%s, %v): of %d parts that stay there are %d", tell(v), p, kept, fresh)
	}
}
