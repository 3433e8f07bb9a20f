package reduce_test

import (
	"strconv"
	"testing"

	"fanlight/api"
	"fanlight/expr"
	"fanlight/reduce"
)

func TestInit(t *testing.T) {
	for _, bad := range faultyValuesAndLoop() {
		mustCheck(t, "an Init "+strconv.Itoa(bad.v.Kind)+" that may not be", reduce.Program{Init: bad.v}, bad.err)
	}
	for kind, of := range ofEachKind() {
		for _, v := range of {
			want := api.ErrType
			if kind == kindRecord {
				want = api.OK
			}
			mustCheck(t, "the Init "+tell(v), reduce.Program{Init: v}, want)
		}
	}
	mustCheck(t, "a program that is zero", reduce.Program{}, api.ErrType)
	mustCheck(t, "an Init of 32 keys", reduce.Program{Init: wideRecord(32)}, api.OK)
	mustCheck(t, "an Init 8 deep", reduce.Program{Init: record("a", deep(7, nothing()))}, api.OK)
	mustCheck(t, "an Init of 512 parts", reduce.Program{Init: record("a", ofParts(511))}, api.OK)
}

func TestCounts(t *testing.T) {
	for _, n := range []int{0, 1, 15, 16} {
		mustCheck(t, strconv.Itoa(n)+" handlers", handling(n), api.OK)
	}
	for _, n := range []int{17, 18, 32, 99} {
		mustCheck(t, strconv.Itoa(n)+" handlers", handling(n), api.ErrCount)
	}
	for n := range 20 {
		want := api.OK
		if n > 8 {
			want = api.ErrCount
		}
		for at := range 3 {
			p := handling(3)
			p.Handlers[at].Sets = manySets(n)
			mustCheck(t, strconv.Itoa(n)+" sets", p, want)
			p = handling(3)
			p.Handlers[at].Emits = manyEmits(n)
			mustCheck(t, strconv.Itoa(n)+" emits", p, want)
			p.Handlers[at].Sets = manySets(8)
			mustCheck(t, "8 sets and "+strconv.Itoa(n)+" emits", p, want)
		}
	}
}

// TestAllThatThereMayBe: 16 handlers, each with 8 sets and 8 emits.
func TestAllThatThereMayBe(t *testing.T) {
	p := handling(16)
	for i := range p.Handlers {
		p.Handlers[i].Sets, p.Handlers[i].Emits = manySets(8), manyEmits(8)
	}
	mustCheck(t, "all that there may be", p, api.OK)
	last := &p.Handlers[15]
	last.Sets = append(last.Sets, set("more", no()))
	mustCheck(t, "all that there may be, and one set", p, api.ErrCount)
	last.Sets = last.Sets[:8]
	last.Emits = append(last.Emits, emit(no(), "more", no()))
	mustCheck(t, "all that there may be, and one emit", p, api.ErrCount)
}

func manySets(n int) []reduce.Set {
	var l []reduce.Set
	for i := range n {
		l = append(l, set("k"+strconv.Itoa(i), yes()))
	}
	return l
}

func manyEmits(n int) []reduce.Emit {
	var l []reduce.Emit
	for i := range n {
		l = append(l, emit(yes(), "n"+strconv.Itoa(i), no()))
	}
	return l
}

func TestNames(t *testing.T) {
	for n := range 40 {
		want := api.OK
		if n == 0 || n > 16 {
			want = api.ErrName
		}
		for _, octet := range []string{"x", "\x00", "\xff", " "} {
			name := repeat(octet, n)
			for at := range 3 {
				what := "a name of " + strconv.Itoa(n) + " octets"
				p := handling(3)
				p.Handlers[at].On = name
				mustCheck(t, "On, "+what, p, want)
				p = handling(1)
				p.Handlers[0].Sets = manySets(3)
				p.Handlers[0].Sets[at].Key = name
				mustCheck(t, "Key, "+what, p, want)
				p = handling(1)
				p.Handlers[0].Emits = manyEmits(3)
				p.Handlers[0].Emits[at].Name = name
				mustCheck(t, "Name, "+what, p, want)
			}
		}
	}
	mustCheck(t, "a handler that is zero", reduce.Program{Init: record(""), Handlers: []reduce.Handler{{}}}, api.ErrName)
	mustCheck(t, "a set that is zero", doing(record(""), []reduce.Set{{}}), api.ErrName)
	mustCheck(t, "an emit that is zero", doing(record(""), nil, reduce.Emit{}), api.ErrName)
}

func TestTwice(t *testing.T) {
	for first := range 16 {
		for second := range 16 {
			if first == second {
				continue
			}
			p := handling(16)
			p.Handlers[first].On = p.Handlers[second].On
			mustCheck(t, "one On at "+strconv.Itoa(first)+" and "+strconv.Itoa(second), p, api.ErrTwice)
			p.Handlers[first].On += "x"
			mustCheck(t, "an On that begins another", p, api.OK)
		}
	}
	two := handling(2)
	two.Handlers[0].On, two.Handlers[1].On = "\x00", "\x00"
	mustCheck(t, "two handlers of one octet that is zero", two, api.ErrTwice)
	two.Handlers[1].On = "\x00\x00"
	mustCheck(t, "two handlers, one and two octets that are zero", two, api.OK)
	two.Handlers[0].On, two.Handlers[1].On = "a", "A"
	mustCheck(t, "a great and a small letter", two, api.OK)
	two.Handlers[0].On, two.Handlers[1].On = "a", "a"
	two.Handlers[1].Sets = manySets(1)
	mustCheck(t, "two handlers of one event that do not the same", two, api.ErrTwice)
}

// TestKeysAndNamesMayBeTwice: only an On counts.
func TestKeysAndNamesMayBeTwice(t *testing.T) {
	p := doing(record(""), sets("e e e", yes(), no(), yes()), emit(no(), "e", no()), emit(no(), "e", no()))
	mustCheck(t, "sets of one key, emits of one name, which is the event's", p, api.OK)
	p.Handlers = append(p.Handlers, reduce.Handler{On: "f", Sets: p.Handlers[0].Sets, Emits: p.Handlers[0].Emits})
	mustCheck(t, "two handlers that do the same", p, api.OK)
}

func TestExpressions(t *testing.T) {
	for _, bad := range faultyExprsAndLoop() {
		for at := range 8 {
			p := handling(2)
			p.Handlers[1].Sets = manySets(8)
			p.Handlers[1].Sets[at].Expr = bad.e
			mustCheck(t, "an expression that may not be, in a set", p, bad.err)
			p = handling(2)
			p.Handlers[0].Emits = manyEmits(8)
			p.Handlers[0].Emits[at].When = bad.e
			mustCheck(t, "an expression that may not be, in When", p, bad.err)
			p = handling(2)
			p.Handlers[0].Emits = manyEmits(8)
			p.Handlers[0].Emits[at].Arg = bad.e
			mustCheck(t, "an expression that may not be, in Arg", p, bad.err)
		}
	}
	for _, f := range failings() {
		mustCheck(t, "an expression that only fails when it is reckoned", doing(record(""), sets("k", f.e), emit(f.e, "n", f.e)), api.OK)
	}
	mustCheck(t, "expressions of 64 parts", doing(record(""), sets("k", ofSize(64)), emit(ofSize(64), "n", ofSize(64))), api.OK)
	mustCheck(t, "a When that never is a truth", doing(record(""), nil, emit(num(1), "n", item())), api.OK)
}

// fault is one thing that may be wrong with a program, and its error.
type fault struct {
	name string
	err  api.Errno
	make func(p *reduce.Program)
}

// faultsInOrder are all that may be wrong with the program of sound, in the order in which it is told; bad is what stands for an expression that may not be.
func faultsInOrder(bad failing) []fault {
	all := []fault{
		{"an Init that may not be", api.ErrDeep, func(p *reduce.Program) { p.Init = record("a", deep(8, nothing())) }},
		{"an Init that is no record", api.ErrType, func(p *reduce.Program) {
			if p.Init.Items == nil {
				p.Init = list()
			}
		}},
		{"17 handlers", api.ErrCount, func(p *reduce.Program) {
			for range 15 {
				p.Handlers = append(p.Handlers, reduce.Handler{On: "m" + strconv.Itoa(len(p.Handlers))})
			}
		}},
	}
	for at := range 2 {
		all = append(all, faultsOfHandler(at, bad)...)
	}
	return append(all, fault{"one On", api.ErrTwice, func(p *reduce.Program) {
		p.Handlers = append(p.Handlers, reduce.Handler{On: "twice"}, reduce.Handler{On: "twice"})
	}})
}

func faultsOfHandler(at int, bad failing) []fault {
	where := " of handler " + strconv.Itoa(at)
	of := func(make func(h *reduce.Handler)) func(p *reduce.Program) {
		return func(p *reduce.Program) { make(&p.Handlers[at]) }
	}
	all := []fault{
		{"9 sets" + where, api.ErrCount, of(func(h *reduce.Handler) { h.Sets = append(h.Sets, manySets(7)...) })},
		{"9 emits" + where, api.ErrCount, of(func(h *reduce.Handler) { h.Emits = append(h.Emits, manyEmits(7)...) })},
		{"On" + where, api.ErrName, of(func(h *reduce.Handler) { h.On = repeat("x", 17) })},
	}
	for i := range 2 {
		all = append(all,
			fault{"Key" + where, api.ErrName, of(func(h *reduce.Handler) { h.Sets[i].Key = "" })},
			fault{"Expr" + where, bad.err, of(func(h *reduce.Handler) { h.Sets[i].Expr = bad.e })})
	}
	for i := range 2 {
		all = append(all,
			fault{"When" + where, bad.err, of(func(h *reduce.Handler) { h.Emits[i].When = bad.e })},
			fault{"Name" + where, api.ErrName, of(func(h *reduce.Handler) { h.Emits[i].Name = "" })},
			fault{"Arg" + where, bad.err, of(func(h *reduce.Handler) { h.Emits[i].Arg = bad.e })})
	}
	return all
}

// sound is a program of two handlers, in which nothing is wrong.
func sound() reduce.Program {
	p := handling(2)
	for i := range p.Handlers {
		p.Handlers[i].Sets, p.Handlers[i].Emits = manySets(2), manyEmits(2)
	}
	return p
}

// TestWhichFaultIsToldFirst: of any two, and of all from one on.
func TestWhichFaultIsToldFirst(t *testing.T) {
	mustCheck(t, "the sound program", sound(), api.OK)
	for _, bad := range faultyExprsAndLoop() {
		all := faultsInOrder(bad)
		for i, first := range all {
			whole := sound()
			for _, second := range all[i:] {
				p := sound()
				first.make(&p)
				second.make(&p)
				mustTellFirst(t, first.name+" and "+second.name, p, first.err)
				second.make(&whole)
			}
			mustTellFirst(t, first.name+" and all behind it", whole, first.err)
		}
	}
}

func mustTellFirst(t *testing.T, what string, p reduce.Program, want api.Errno) {
	t.Helper()
	if err := reduce.Check(p); err != want {
		t.Errorf("P16.1, P4: Check with %s: %v, want %v", what, err, want)
	}
	if _, _, err := reduce.Step(p, nothing(), api.Event{}); err != want {
		t.Errorf("P16.2, P4: Step with %s: %v, want %v", what, err, want)
	}
	if _, _, _, err := reduce.Fold(p, make([]api.Event, 2)); err != want {
		t.Errorf("P16.2, P4: Fold with %s: %v, want %v", what, err, want)
	}
}

// TestTwiceIsToldLast: even behind the faults of handlers that come behind the two.
func TestTwiceIsToldLast(t *testing.T) {
	for _, bad := range faultyExprsAndLoop() {
		p := handling(5)
		p.Handlers[0].On = p.Handlers[1].On
		mustCheck(t, "one On", p, api.ErrTwice)
		p.Handlers[4].Emits = []reduce.Emit{emit(no(), "n", bad.e)}
		mustCheck(t, "one On, and an Arg that may not be behind", p, bad.err)
		p.Handlers[3].Sets = manySets(9)
		mustCheck(t, "one On, and 9 sets behind", p, api.ErrCount)
		p.Handlers[2].On = ""
		mustCheck(t, "one On, and no name behind", p, api.ErrName)
	}
	p := handling(2)
	p.Handlers[0].On, p.Handlers[1].On = "", ""
	mustCheck(t, "one On that is no name", p, api.ErrName)
	p = handling(17)
	p.Handlers[0].On = p.Handlers[1].On
	mustCheck(t, "17 handlers, of one On two", p, api.ErrCount)
}

// TestManyOfAll: more than there may be, many more, are only counted.
func TestManyOfAll(t *testing.T) {
	p := reduce.Program{Init: record(""), Handlers: make([]reduce.Handler, 1<<20)}
	mustCheck(t, "a million handlers", p, api.ErrCount)
	p = doing(record(""), make([]reduce.Set, 1<<20))
	mustCheck(t, "a million sets", p, api.ErrCount)
	p = doing(record(""), nil, make([]reduce.Emit, 1<<20)...)
	mustCheck(t, "a million emits", p, api.ErrCount)
	wide := expr.Expr{Op: opList, Args: make([]expr.Expr, 1<<20)}
	mustCheck(t, "a million Args", doing(record(""), sets("k", wide)), api.ErrState)
}
