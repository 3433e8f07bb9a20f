package outbox_test

import (
	"encoding/binary"
	"fmt"
	"math"
	"math/rand"
	"slices"
	"strconv"
	"strings"

	"fanlight/api"
	"fanlight/outbox"
	"fanlight/pack"
	"fanlight/value"
)

const (
	lastSeq = 1 << 40 // the greatest Last and seq
	most    = 256     // items of a box
	each    = 32      // effects of an event, and numbers of one
	longest = 16      // octets of a Name
)

func text(s string) api.Value {
	return api.Value{Kind: 3, Text: s}
}

func list(items ...api.Value) api.Value {
	return api.Value{Kind: 4, Items: items}
}

// record takes its keys in one text, a space between two.
func record(keys string, items ...api.Value) api.Value {
	return api.Value{Kind: 5, Keys: strings.Fields(keys), Items: items}
}

// deep is v within so many lists that it is the n-th of parts within each other.
func deep(n int, v api.Value) api.Value {
	for range n - 1 {
		v = list(v)
	}
	return v
}

// ofParts is a list of n parts, itself counted, 3 deep: n is at most 1 + 32*33.
func ofParts(n int) api.Value {
	l := list()
	for n--; n > 0; {
		inner := min(n, 1+api.MaxItems)
		l.Items = append(l.Items, list(make([]api.Value, inner-1)...))
		n -= inner
	}
	return l
}

// withinItself is a list whose items are itself.
func withinItself(n int) api.Value {
	v := list(make([]api.Value, n)...)
	for i := range v.Items {
		v.Items[i] = v
	}
	return v
}

// args are values that may be: every kind, the greatest ones among them.
func args() []api.Value {
	return []api.Value{
		{}, {Kind: 1}, {Kind: 1, Bits: 1}, {Kind: 2}, {Kind: 2, Bits: 0x7ff8000000000000}, {Kind: 2, Bits: math.Float64bits(-2.5)},
		text(""), text("a"), text("\x00\xff"), text(strings.Repeat("x", api.MaxText)),
		list(), list(text("a"), list(), record("")), deep(api.MaxDepth, text("down")), ofParts(api.MaxNodes),
		record(""), record("a b", list(text("x")), record("c", api.Value{Kind: 1})), record(strings.Repeat("k", longest), text("y")),
		{Keys: []string{}, Items: []api.Value{}}, {Kind: 4, Keys: []string{}, Items: []api.Value{}},
	}
}

// badArg is a value that may not be, with its error.
type badArg struct {
	name string
	arg  api.Value
	err  api.Errno
}

func badArgs() []badArg {
	return []badArg{
		{"Kind 6", api.Value{Kind: 6}, api.ErrState},
		{"Kind -1", api.Value{Kind: -1}, api.ErrState},
		{"a truth of 2", api.Value{Kind: 1, Bits: 2}, api.ErrState},
		{"another NaN", api.Value{Kind: 2, Bits: 0x7ff8000000000001}, api.ErrState},
		{"a text of 129 octets", text(strings.Repeat("x", api.MaxText+1)), api.ErrState},
		{"33 items", list(make([]api.Value, api.MaxItems+1)...), api.ErrState},
		{"keys that fall", record("b a", api.Value{}, api.Value{}), api.ErrState},
		{"a fault within", record("a", list(api.Value{Kind: 9})), api.ErrState},
		{"nothing with a text", api.Value{Text: "x"}, api.ErrState},
		{"nine deep", deep(api.MaxDepth+1, api.Value{}), api.ErrDeep},
		{"513 parts", ofParts(api.MaxNodes + 1), api.ErrCount},
		{"a list within itself", withinItself(1), api.ErrDeep},
		{"a list 32 times within itself", withinItself(api.MaxItems), api.ErrDeep},
	}
}

// badNames are those that may not be.
func badNames() []string {
	return []string{"", strings.Repeat("n", longest+1), strings.Repeat("é", longest/2) + "x", strings.Repeat("n", 255), strings.Repeat("n", 256), strings.Repeat("n", 257), strings.Repeat("n", 272)}
}

// goodNames are those that may be, the edges and octets of any kind among them.
func goodNames() []string {
	return []string{"a", "\x00", "\xff", " ", "é", strings.Repeat("n", longest-1), strings.Repeat("n", longest), strings.Repeat("\x00", longest), strings.Repeat("é", longest/2)}
}

func effect(name string, arg api.Value) api.Effect {
	return api.Effect{Name: name, Arg: arg}
}

// effects are n of them, no two alike.
func effects(n int) []api.Effect {
	var l []api.Effect
	for i := range n {
		l = append(l, effect("e"+strconv.Itoa(i), list(text(strconv.Itoa(i)))))
	}
	return l
}

func item(id int) api.Item {
	return api.Item{ID: id, Effect: effect("e"+strconv.Itoa(id%1000), list(text(strconv.Itoa(id))))}
}

func box(last int, ids ...int) outbox.Box {
	b := outbox.Box{Last: last}
	for _, id := range ids {
		b.Items = append(b.Items, item(id))
	}
	return b
}

// run are the n numbers from one on.
func run(from, n int) []int {
	var l []int
	for i := range n {
		l = append(l, from+i)
	}
	return l
}

// with is a box of three items, the one at a place with another effect.
func with(at int, e api.Effect) outbox.Box {
	b := box(3, 32, 64, 97)
	b.Items[at].Effect = e
	return b
}

// may are boxes that may be: the edges, and some by chance.
func may() []outbox.Box {
	l := []outbox.Box{
		box(0), {Items: []api.Item{}}, box(1), box(255), box(1<<32 + 1), box(lastSeq - 1), box(lastSeq),
		box(1, 32), box(1, 63), box(1, 32, 63), box(3, 96, 97), box(3, 32, 33, 64, 97, 127), box(9, 32), box(9, 319),
		box(1, run(32, each)...), box(8, run(32, most)...), box(9, run(64, most)...), box(300, run(9600-most, most-1)...),
		box(lastSeq, 32), box(lastSeq, 32*lastSeq), box(lastSeq, 32*lastSeq+31), box(lastSeq, 32, 1<<31, 1<<32+1, 32*lastSeq, 32*lastSeq+31),
		box(lastSeq-1, 32*lastSeq-1), box(lastSeq, run(32*(lastSeq+1)-most, most)...), box(0x0102030405, 0x0102030405, 0x1102030405),
	}
	for _, name := range goodNames() {
		l = append(l, with(0, effect(name, api.Value{})), with(2, effect(name, text(name))))
	}
	for _, arg := range args() {
		l = append(l, with(1, effect("x", arg)))
	}
	r := chanceOf(8)
	for range 80 {
		l = append(l, r.box())
	}
	return l
}

// outside are numbers that no Last may be.
func outside() []int {
	return []int{-1, -2, -32, -lastSeq, -1 << 58, -1<<58 - 1, -1 << 62, math.MinInt + 1, math.MinInt, lastSeq + 1, lastSeq + 2, 2 * lastSeq, 1 << 57, 1 << 58, 1<<58 - 1, 1<<59 + 1, 1 << 62, math.MaxInt - 1, math.MaxInt}
}

// fault is a box that may not be, told by its name: its values may have no end.
type fault struct {
	name string
	box  outbox.Box
}

// mayNot are boxes that may not be, each for one cause.
func mayNot() []fault {
	l := []fault{
		{"257 items", box(9, run(32, most+1)...)},
		{"257 items up to the last number", box(9, run(320-most-1, most+1)...)},
		{"3000 items", box(lastSeq, run(32, 3000)...)},
		{"the ID 31", box(3, 31)},
		{"the ID 31, Last 0", box(0, 31)},
		{"the ID 0", box(3, 0)},
		{"the ID 1", box(3, 1, 32)},
		{"an ID below 0", box(3, -1)},
		{"the least ID", box(3, math.MinInt, 32)},
		{"the ID 32, Last 0", box(0, 32)},
		{"the ID 64, Last 1", box(1, 64)},
		{"the ID 64 behind others, Last 1", box(1, 32, 63, 64)},
		{"the ID 32 (2^40 + 1)", box(lastSeq, 32*(lastSeq+1))},
		{"the ID 32 * 2^40, Last 2^40 - 1", box(lastSeq-1, 32*lastSeq)},
		{"the ID 2^62", box(lastSeq, 1<<62)},
		{"the greatest ID", box(lastSeq, math.MaxInt)},
		{"the greatest ID, and one behind", box(3, math.MaxInt, math.MinInt)},
		{"the greatest ID, and 32 behind", box(3, math.MaxInt, 32)},
		{"the least ID behind the others", box(3, 32, math.MinInt)},
		{"two of one ID", box(3, 64, 64)},
		{"two of one ID behind", box(3, 32, 64, 64)},
		{"two of one ID, one between", box(3, 64, 96, 64)},
		{"IDs that fall", box(3, 97, 96)},
		{"IDs that fall in the middle", box(3, 32, 64, 63, 96)},
		{"IDs that fall behind", box(3, 32, 64, 96, 33)},
		{"IDs in an order as texts", box(4, 100, 96)},
		{"256 items, the last falls", outbox.Box{Last: 9, Items: append(box(9, run(64, most-1)...).Items, item(40))}},
	}
	for _, n := range outside() {
		l = append(l, fault{"Last " + strconv.Itoa(n), box(n)}, fault{"an item, Last " + strconv.Itoa(n), box(n, 32)}, fault{"the first ID, Last " + strconv.Itoa(n), box(n, 32*n)})
	}
	for at := range 3 {
		place := " at place " + strconv.Itoa(at)
		for _, name := range badNames() {
			l = append(l, fault{"a Name of " + strconv.Itoa(len(name)) + " octets" + place, with(at, effect(name, api.Value{}))})
		}
		for _, bad := range badArgs() {
			l = append(l, fault{bad.name + place, with(at, effect("x", bad.arg))})
		}
	}
	return l
}

// mayBe tells whether b may be, by the chapter's words alone.
func mayBe(b outbox.Box) bool {
	if b.Last < 0 || b.Last > lastSeq || len(b.Items) > most {
		return false
	}
	for i, it := range b.Items {
		fits := it.ID >= 32 && it.ID/32 <= b.Last && (i == 0 || b.Items[i-1].ID < it.ID)
		named := len(it.Effect.Name) >= 1 && len(it.Effect.Name) <= longest
		if !fits || !named || value.Check(it.Effect.Arg) != api.OK {
			return false
		}
	}
	return true
}

// octets is a number in so many octets, the highest first.
func octets(n uint64, count int) string {
	return string(binary.BigEndian.AppendUint64(nil, n))[8-count:]
}

// packed is a value that may be as octets.
func packed(v api.Value) string {
	b, err := pack.Encode(v)
	if err != api.OK {
		panic("a value for a test that may not be")
	}
	return string(b)
}

// head is what stands ahead of the items.
func head(last uint64, count int) string {
	return octets(last, 8) + octets(uint64(count), 2)
}

// entry is an item's octets, whether it may be or not.
func entry(id uint64, name, arg string) string {
	return octets(id, 8) + octets(uint64(len(name)), 1) + name + arg
}

// octetsOf is a box by the chapter's words, whether it may be or not.
func octetsOf(b outbox.Box) string {
	s := head(uint64(b.Last), len(b.Items))
	for _, it := range b.Items {
		s += entry(uint64(it.ID), it.Effect.Name, packed(it.Effect.Arg))
	}
	return s
}

// decoded is what Decode is to tell, by the chapter's words alone.
func decoded(s string) (outbox.Box, api.Errno) {
	if len(s) < 10 {
		return outbox.Box{}, api.ErrShort
	}
	b := outbox.Box{Last: small(s[:8])}
	count := int(s[8])*256 + int(s[9])
	if count > most {
		return outbox.Box{}, api.ErrCount
	}
	for s = s[10:]; count > 0; count-- {
		if len(s) < 9 || len(s) < 9+int(s[8]) {
			return outbox.Box{}, api.ErrShort
		}
		id, name, arg := s[:8], s[9:9+int(s[8])], s[9+int(s[8]):]
		v, n, err := pack.Take([]byte(arg))
		if err != api.OK {
			return outbox.Box{}, err
		}
		b.Items = append(b.Items, api.Item{ID: small(id), Effect: effect(name, v)})
		s = arg[n:]
	}
	if s != "" {
		return outbox.Box{}, api.ErrTail
	}
	if !mayBe(b) {
		return outbox.Box{}, api.ErrState
	}
	return b, api.OK
}

// small is a number of eight octets; -1, which may not be, of one above 2^62.
func small(s string) int {
	if n := binary.BigEndian.Uint64([]byte(s)); n <= 1<<62 {
		return int(n)
	}
	return -1
}

// appendValue writes v out, so that two values are one just if what is told is one; nil and empty lists are told alike.
func appendValue(s []byte, v api.Value) []byte {
	s = append(strconv.AppendInt(s, int64(v.Kind), 10), ' ')
	s = append(strconv.AppendUint(s, v.Bits, 16), ' ')
	s = append(strconv.AppendQuote(s, v.Text), '[')
	for _, key := range v.Keys {
		s = strconv.AppendQuote(s, key)
	}
	s = append(s, ']', '(')
	for _, part := range v.Items {
		s = append(appendValue(s, part), ' ')
	}
	return append(s, ')')
}

func tellValue(v api.Value) string {
	return string(appendValue(nil, v))
}

// tellItems writes items out in the same way.
func tellItems(l []api.Item) string {
	var s []byte
	for _, it := range l {
		s = append(strconv.AppendInt(s, int64(it.ID), 10), ' ')
		s = append(strconv.AppendQuote(s, it.Effect.Name), ' ')
		s = append(appendValue(s, it.Effect.Arg), ' ')
	}
	return string(s)
}

func tell(b outbox.Box) string {
	return strconv.Itoa(b.Last) + ": " + tellItems(b.Items)
}

// short tells a box by its numbers, for a person.
func short(b outbox.Box) string {
	return fmt.Sprintf("(Last %d: %.10v)", b.Last, ids(b.Items))
}

func ids(l []api.Item) []int {
	var n []int
	for _, it := range l {
		n = append(n, it.ID)
	}
	return n
}

func isZero(b outbox.Box) bool {
	return b.Last == 0 && len(b.Items) == 0
}

// chance makes boxes from a fixed rule; their values are of one list, and so may lie in one memory.
type chance struct {
	*rand.Rand
	names []string
	args  []api.Value
}

func chanceOf(seed int64) chance {
	return chance{rand.New(rand.NewSource(seed)), goodNames(), args()}
}

func (r chance) effect() api.Effect {
	return effect(r.names[r.Intn(len(r.names))], r.args[r.Intn(len(r.args))])
}

func (r chance) effects(n int) []api.Effect {
	var l []api.Effect
	for range n {
		l = append(l, r.effect())
	}
	return l
}

func (r chance) box() outbox.Box {
	b := outbox.Box{Last: 1 + r.Intn(1<<(1+r.Intn(40)))}
	var l []int
	for range r.Intn(12) {
		l = append(l, 32+r.Intn(32*b.Last))
	}
	slices.Sort(l)
	for _, id := range slices.Compact(l) {
		b.Items = append(b.Items, api.Item{ID: id, Effect: r.effect()})
	}
	return b
}
