package reduce_test

import (
	"slices"
	"strconv"
	"testing"

	"fanlight/api"
	"fanlight/expr"
	"fanlight/reduce"
)

// TestExample: the chapter's example.
func TestExample(t *testing.T) {
	p := reduce.Program{Init: record("n", number(0)), Handlers: []reduce.Handler{{On: "up", Sets: sets("n", plus("n", 1))}}}
	up := happening("up", nothing())
	mustFold(t, p, []api.Event{up, up}, record("n", number(2)), nil, 2, api.OK)
	mustStep(t, p, record("n", number(4)), up, record("n", number(5)))
}

// TestWhatIsHandedIn: which of the errors of state and event is told.
func TestWhatIsHandedIn(t *testing.T) {
	p := doing(record("n", number(0)), sets("n", event()), emit(yes(), "tell", event()))
	mustStep(t, p, record(""), e(text("x")), record("n", text("x")), effect("tell", text("x")))
	for _, bad := range faultyValuesAndLoop() {
		mustTellErr(t, p, bad.v, e(nothing()), bad.err)
		mustRefuse(t, p, record("z", nothing()), e(bad.v), bad.err)
	}
	for kind, of := range ofEachKind() {
		for _, v := range of {
			mustStep(t, p, record(""), e(v), record("n", v), effect("tell", v))
			if kind != kindRecord {
				mustTellErr(t, p, v, e(nothing()), api.ErrType)
			}
		}
	}
}

func TestNamesOfEvents(t *testing.T) {
	for n := range 40 {
		for _, octet := range []string{"x", "\x00", "\xff"} {
			name := repeat(octet, n)
			p := reduce.Program{Init: record("n", number(0)), Handlers: []reduce.Handler{{On: name, Sets: sets("n", plus("n", 1))}}}
			if 1 <= n && n <= 16 {
				mustStep(t, p, record("n", number(1)), happening(name, nothing()), record("n", number(2)))
			}
			p.Handlers[0].On = "other"
			want := api.ErrName
			if 1 <= n && n <= 16 {
				want = api.ErrNone
			}
			mustRefuse(t, p, record("n", number(1)), happening(name, nothing()), want)
		}
	}
}

// TestWhichHandler: that of the event's name, and no other.
func TestWhichHandler(t *testing.T) {
	p := reduce.Program{Init: record("")}
	for i := range 16 {
		h := reduce.Handler{On: repeat("e", i+1), Sets: sets("n", num(float64(i)))}
		h.Emits = []reduce.Emit{emit(yes(), "n"+strconv.Itoa(i), get("n"))}
		p.Handlers = append(p.Handlers, h)
	}
	for i := range 16 {
		mustStep(t, p, record(""), happening(repeat("e", i+1), nothing()), record("n", number(float64(i))), effect("n"+strconv.Itoa(i), number(float64(i))))
		less := p
		less.Handlers = without(p.Handlers, i)
		mustRefuse(t, less, record(""), happening(repeat("e", i+1), nothing()), api.ErrNone)
	}
	for _, name := range []string{"E", "ee ", "e\x00", "f", "d", "n", "n0"} {
		mustRefuse(t, p, record(""), happening(name, nothing()), api.ErrNone)
	}
	mustRefuse(t, handling(0), record(""), e(nothing()), api.ErrNone)
}

// TestWhichErrorOfStepIsToldFirst: of any two, in the chapter's order.
func TestWhichErrorOfStepIsToldFirst(t *testing.T) {
	type call struct {
		p reduce.Program
		v api.Value
		x api.Event
	}
	faults := []struct {
		name string
		err  api.Errno
		make func(c *call)
	}{
		{"a program", api.ErrCount, func(c *call) { c.p.Handlers = append(c.p.Handlers, handling(16).Handlers...) }},
		{"a state that may not be", api.ErrDeep, func(c *call) { c.v = record("a", deep(8, nothing())) }},
		{"a state that is no record", api.ErrType, func(c *call) {
			if c.v.Items == nil {
				c.v = number(1)
			}
		}},
		{"a name", api.ErrName, func(c *call) { c.x.Name = "" }},
		{"an Arg", api.ErrState, func(c *call) { c.x.Arg = api.Value{Kind: 6} }},
		{"no handler", api.ErrNone, func(c *call) { c.p.Handlers[0].On = "f" }},
		{"a set", api.ErrIndex, func(c *call) { c.p.Handlers[0].Sets = sets("k", op(opAt, op(opList), num(0))) }},
	}
	for i, first := range faults {
		for _, second := range faults[i:] {
			c := call{doing(record(""), nil), record(""), e(nothing())}
			second.make(&c)
			first.make(&c)
			next, l, err := reduce.Step(c.p, c.v, c.x)
			if !isZero(next) || l != nil || err != first.err {
				t.Errorf("P16.2, P4: Step with %s and %s: %s, %s, %v, want %v", first.name, second.name, tell(next), tellEffects(l), err, first.err)
			}
		}
	}
}

// TestSetsReadTheStateAsItWas: whatever an earlier set of the same handler makes.
func TestSetsReadTheStateAsItWas(t *testing.T) {
	p := doing(record(""), sets("a b c", get("b"), get("c"), get("a")))
	mustStep(t, p, record("a b c", number(1), number(2), number(3)), e(nothing()), record("a b c", number(2), number(3), number(1)))
	p = doing(record(""), sets("a b c", plus("a", 1), plus("a", 10), plus("a", 100)))
	mustStep(t, p, record("a", number(1)), e(nothing()), record("a b c", number(2), number(11), number(101)))
	p = doing(record(""), sets("a a a", plus("a", 1), plus("a", 1), plus("a", 1)))
	mustStep(t, p, record("a", number(1)), e(nothing()), record("a", number(2)))
	p = doing(record(""), sets("new b", yes(), get("new")))
	mustRefuse(t, p, record("a", number(1)), e(nothing()), api.ErrNone)
	p = doing(record(""), sets("a b", str("x"), state()))
	mustStep(t, p, record("a z", number(1), nothing()), e(nothing()), record("a b z", text("x"), record("a z", number(1), nothing()), nothing()))
	p = doing(record(""), sets("a b", op(opLen, state()), op(opLen, state())))
	mustStep(t, p, record(""), e(nothing()), record("a b", number(0), number(0)))
}

// TestTheLastSetOfAKeyCounts: all are reckoned, and what an earlier one of a key told is gone.
func TestTheLastSetOfAKeyCounts(t *testing.T) {
	p := doing(record(""), sets("a b a c a", num(1), num(2), num(3), num(4), num(5)))
	mustStep(t, p, record(""), e(nothing()), record("a b c", number(5), number(2), number(4)))
	mustStep(t, p, record("a b", list(), list()), e(nothing()), record("a b c", number(5), number(2), number(4)))
	for _, f := range failings() {
		mustRefuse(t, doing(record(""), sets("a a", f.e, num(1))), record("a", nothing()), e(nothing()), f.err)
		mustRefuse(t, doing(record(""), sets("a a", num(1), f.e)), record("a", nothing()), e(nothing()), f.err)
	}
	for _, great := range []api.Value{deep(8, nothing()), ofParts(512)} {
		mustStep(t, doing(record(""), sets("a a", event(), num(1))), record("b", nothing()), e(great), record("a b", number(1), nothing()))
		mustRefuse(t, doing(record(""), sets("a a", num(1), event())), record("b", nothing()), e(great), api.ErrBig)
	}
	half := ofParts(300)
	p = doing(record(""), sets("b a", event(), op(opNothing)))
	mustStep(t, p, record("a b", half, nothing()), e(half), record("a b", nothing(), half))
}

// TestKeysStandInOrder: wherever a new one comes.
func TestKeysStandInOrder(t *testing.T) {
	was := record("b d f", number(1), number(2), number(3))
	for _, c := range []struct {
		key  string
		want api.Value
	}{
		{"a", record("a b d f", truth(true), number(1), number(2), number(3))},
		{"b", record("b d f", truth(true), number(2), number(3))},
		{"c", record("b c d f", number(1), truth(true), number(2), number(3))},
		{"d", record("b d f", number(1), truth(true), number(3))},
		{"dd", record("b d dd f", number(1), number(2), truth(true), number(3))},
		{"f", record("b d f", number(1), number(2), truth(true))},
		{"g", record("b d f g", number(1), number(2), number(3), truth(true))},
		{"\xff", record("b d f \xff", number(1), number(2), number(3), truth(true))},
		{"B", record("B b d f", truth(true), number(1), number(2), number(3))},
	} {
		mustStep(t, doing(record(""), sets(c.key, yes())), was, e(nothing()), c.want)
	}
	p := doing(record(""), sets("h g f e d c b a", num(8), num(7), num(6), num(5), num(4), num(3), num(2), num(1)))
	mustStep(t, p, record("aa x", list(), nothing()), e(nothing()), record("a aa b c d e f g h x", number(1), list(), number(2), number(3), number(4), number(5), number(6), number(7), number(8), nothing()))
	long := repeat("k", 16)
	mustStep(t, doing(record(""), sets(long, yes())), record("k l", nothing(), nothing()), e(nothing()), record("k "+long+" l", nothing(), truth(true), nothing()))
}

// TestAHandlerThatDoesNothing: the state stays.
func TestAHandlerThatDoesNothing(t *testing.T) {
	for _, v := range append(ofEachKind()[kindRecord], wideRecord(32), record("a", deep(7, nothing())), record("a", ofParts(511))) {
		mustStep(t, doing(record(""), nil), v, e(text("x")), v)
	}
}

func TestTooManyKeys(t *testing.T) {
	one := func(key string) reduce.Program { return doing(record(""), sets(key, yes())) }
	for _, key := range []string{"a", "k005", "z"} {
		v, _, err := reduce.Step(one(key), wideRecord(31), e(nothing()))
		if err != api.OK || len(v.Keys) != 32 || len(v.Items) != 32 || !slices.IsSorted(v.Keys) || !slices.Contains(v.Keys, key) {
			t.Errorf("P16.2: a new key %s in a record of 31 keys: %s, %v", key, tell(v), err)
		}
		mustRefuse(t, one(key), wideRecord(32), e(nothing()), api.ErrBig)
		mustRefuse(t, doing(record(""), sets(key+" "+key+"a", yes(), yes())), wideRecord(31), e(nothing()), api.ErrBig)
		mustRefuse(t, doing(record(""), sets("k00 k01 "+key, yes(), yes(), yes())), wideRecord(32), e(nothing()), api.ErrBig)
	}
	want := wideRecord(32)
	want.Items[0], want.Items[31] = truth(true), text("x")
	mustStep(t, doing(record(""), sets("k31 k00", str("x"), yes())), wideRecord(32), e(nothing()), want)
	eight := sets("a b c d e f g h", yes(), yes(), yes(), yes(), yes(), yes(), yes(), yes())
	if v, _, err := reduce.Step(doing(record(""), eight), wideRecord(24), e(nothing())); len(v.Keys) != 32 || err != api.OK {
		t.Errorf("P16.2: 8 new keys in a record of 24: %d, %v", len(v.Keys), err)
	}
	for n := 25; n <= 32; n++ {
		mustRefuse(t, doing(record(""), eight), wideRecord(n), e(nothing()), api.ErrBig)
	}
}

func TestTooDeep(t *testing.T) {
	p := doing(record(""), sets("k", event()))
	for _, bottom := range []api.Value{text("x"), list(), record("")} {
		for n := 1; n <= 7; n++ {
			mustStep(t, p, record("a", nothing()), e(deep(n, bottom)), record("a k", nothing(), deep(n, bottom)))
		}
		mustRefuse(t, p, record("a", nothing()), e(deep(8, bottom)), api.ErrBig)
		mustRefuse(t, p, record("k", nothing()), e(deep(8, bottom)), api.ErrBig)
	}
	mustStep(t, doing(record(""), sets("k", state())), record("k", deep(6, nothing())), e(nothing()), record("k", record("k", deep(6, nothing()))))
	mustRefuse(t, doing(record(""), sets("k", state())), record("k", deep(7, nothing())), e(nothing()), api.ErrBig)
}

func TestTooManyParts(t *testing.T) {
	p := doing(record(""), sets("k", event()))
	for _, n := range []int{1, 500, 510} {
		mustStep(t, p, record("a", nothing()), e(ofParts(n)), record("a k", nothing(), ofParts(n)))
	}
	mustRefuse(t, p, record("a", nothing()), e(ofParts(511)), api.ErrBig)
	mustRefuse(t, p, record("a", nothing()), e(ofParts(512)), api.ErrBig)
	mustStep(t, p, record("k", nothing()), e(ofParts(511)), record("k", ofParts(511)))
	mustRefuse(t, p, record("k", nothing()), e(ofParts(512)), api.ErrBig)
	two := doing(record(""), sets("k l", event(), event()))
	mustStep(t, two, record("m", nothing()), e(ofParts(255)), record("k l m", ofParts(255), ofParts(255), nothing()))
	mustRefuse(t, two, record("m n", nothing(), nothing()), e(ofParts(255)), api.ErrBig)
	mustRefuse(t, two, record(""), e(ofParts(256)), api.ErrBig)
}

// TestErrorsOfSets: the first set that fails, ahead of what would be too big and of all emits.
func TestErrorsOfSets(t *testing.T) {
	for _, f := range failings() {
		for at := range 8 {
			s := manySets(8)
			s[at].Expr = f.e
			for i := at + 1; i < 8; i++ {
				s[i].Expr = op(opNot, op(opNothing))
			}
			mustRefuse(t, doing(record(""), s), record("a", nothing()), e(nothing()), f.err)
			mustRefuse(t, doing(record(""), s, emit(op(opNot, num(1)), "n", op(opNot, num(1)))), wideRecord(32), e(nothing()), f.err)
		}
		mustRefuse(t, doing(record(""), sets("k l", event(), f.e)), record(""), e(deep(8, nothing())), f.err)
		mustRefuse(t, doing(record(""), sets("k", event()), emit(f.e, "n", f.e)), record(""), e(deep(8, nothing())), api.ErrBig)
		mustRefuse(t, doing(record(""), sets("k", event()), emit(yes(), "n", f.e)), record(""), e(ofParts(512)), api.ErrBig)
	}
}

// TestEmitsReadTheNewState: When and Arg, of keys that were set, that are new, and that stayed.
func TestEmitsReadTheNewState(t *testing.T) {
	p := doing(record(""), sets("n new", plus("n", 1), str("x")),
		emit(op(opSame, get("n"), num(2)), "two", get("n")),
		emit(op(opSame, get("n"), num(1)), "one", get("n")),
		emit(yes(), "all", state()),
		emit(op(opSame, get("new"), str("x")), "new", op(opList, get("new"), get("old"), event())))
	after := record("n new old", number(2), text("x"), truth(false))
	mustStep(t, p, record("n old", number(1), truth(false)), e(text("e")), after,
		effect("two", number(2)), effect("all", after), effect("new", list(text("x"), truth(false), text("e"))))
	after = record("n new old", number(1), text("x"), truth(false))
	mustStep(t, p, record("n old", number(0), truth(false)), e(text("e")), after,
		effect("one", number(1)), effect("all", after), effect("new", list(text("x"), truth(false), text("e"))))
}

// TestWhen: true, false, or no truth at all; an Arg is reckoned only if it is true.
func TestWhen(t *testing.T) {
	was := record("n", number(1))
	for kind, of := range ofEachKind() {
		for _, v := range of {
			p := doing(record(""), nil, emit(event(), "tell", str("x")))
			switch {
			case kind != kindTruth:
				mustRefuse(t, p, was, e(v), api.ErrType)
			case v.Bits == 1:
				mustStep(t, p, was, e(v), was, effect("tell", text("x")))
			default:
				mustStep(t, p, was, e(v), was)
			}
		}
	}
	for _, f := range failings() {
		mustStep(t, doing(record(""), nil, emit(no(), "tell", f.e)), was, e(nothing()), was)
		mustRefuse(t, doing(record(""), nil, emit(yes(), "tell", f.e)), was, e(nothing()), f.err)
		mustRefuse(t, doing(record(""), nil, emit(f.e, "tell", op(opNot, str("")))), was, e(nothing()), f.err)
		mustRefuse(t, doing(record(""), nil, emit(num(1), "tell", f.e)), was, e(nothing()), api.ErrType)
	}
	mustRefuse(t, doing(record(""), nil, reduce.Emit{Name: "tell"}), was, e(nothing()), api.ErrType)
}

// TestEmitsInOrder: of eight, those whose When is true, in order; one name may come more than once.
func TestEmitsInOrder(t *testing.T) {
	for mask := range 256 {
		var emits []reduce.Emit
		var want []api.Effect
		for i := range 8 {
			when, name := no(), []string{"a", "b", "a"}[i%3]
			if mask>>i&1 == 1 {
				when = yes()
				want = append(want, effect(name, number(float64(i))))
			}
			emits = append(emits, emit(when, name, num(float64(i))))
		}
		mustStep(t, doing(record(""), nil, emits...), record("n", nothing()), e(nothing()), record("n", nothing()), want...)
	}
}

// TestErrorsOfEmits: the first one that fails; beside it nothing of those ahead is told, nor of the sets.
func TestErrorsOfEmits(t *testing.T) {
	for _, f := range failings() {
		for at := range 8 {
			emits := manyEmits(8)
			emits[at].When = f.e
			for i := at + 1; i < 8; i++ {
				emits[i].When = op(opNot, op(opNothing))
			}
			mustRefuse(t, doing(record(""), manySets(3), emits...), record("a", nothing()), e(nothing()), f.err)
			emits[at].When, emits[at].Arg = yes(), f.e
			mustRefuse(t, doing(record(""), manySets(3), emits...), record("a", nothing()), e(nothing()), f.err)
		}
	}
}

// TestEffectsMayBeAsGreatAsValues: what an effect carries need not fit into the state.
func TestEffectsMayBeAsGreatAsValues(t *testing.T) {
	for _, v := range []api.Value{deep(8, nothing()), ofParts(512), text(repeat("x", 128)), wideRecord(32), numbers(32)} {
		emits := slices.Repeat([]reduce.Emit{emit(yes(), "tell", event())}, 8)
		want := slices.Repeat([]api.Effect{effect("tell", v)}, 8)
		mustStep(t, doing(record(""), nil, emits...), record(""), e(v), record(""), want...)
	}
}

// TestItemIsNothing: in sets, When and Arg, also behind an op that goes through a list.
func TestItemIsNothing(t *testing.T) {
	through := op(opFilter, get("l"), op(opSame, item(), num(1)))
	p := doing(record(""), sets("a b c", item(), through, item()),
		emit(op(opSame, item(), op(opNothing)), "tell", item()),
		emit(op(opSame, get("b"), op(opList, num(1))), "more", op(opList, through, item())))
	mustStep(t, p, record("l", numbers(3)), e(text("x")),
		record("a b c l", nothing(), list(number(1)), nothing(), numbers(3)),
		effect("tell", nothing()), effect("more", list(list(number(1)), nothing())))
}

// TestEventIsTheArg: not the event's name, nor anything of an earlier event.
func TestEventIsTheArg(t *testing.T) {
	p := doing(record(""), sets("a", event()), emit(op(opSame, event(), get("a")), "tell", event()))
	mustFold(t, p, []api.Event{e(text("x")), e(list()), e(nothing())}, record("a", nothing()),
		[]api.Effect{effect("tell", text("x")), effect("tell", list()), effect("tell", nothing())}, 3, api.OK)
}

// fueled is a program whose eight sets and eight emits take so much fuel, and each of those expressions at least 3.
func fueled(shares []int) reduce.Program {
	var s []reduce.Set
	var l []reduce.Emit
	for i := range 8 {
		s = append(s, set("k"+strconv.Itoa(i), burns(shares[i])))
		l = append(l, emit(op(opNot, burns(shares[8+i]-1)), "n"+strconv.Itoa(i), burns(shares[16+i])))
	}
	return doing(record(""), s, l...)
}

// TestFuel: 4096 for all sets and emits together, wherever the most of it is burnt: just enough may be, one more may not.
func TestFuel(t *testing.T) {
	was := record("l", numbers(32))
	after := record("k0 k1 k2 k3 k4 k5 k6 k7 l", append(slices.Repeat([]api.Value{truth(false)}, 8), numbers(32))...)
	var want []api.Effect
	for i := range 8 {
		want = append(want, effect("n"+strconv.Itoa(i), truth(false)))
	}
	for first := range 24 {
		shares := slices.Repeat([]int{4}, 24)
		left := api.MaxFuel - 24*4
		for i := first; left > 0; i++ {
			more := min(left, 800)
			shares[i%24] += more
			left -= more
		}
		mustStep(t, fueled(shares), was, e(nothing()), after, want...)
		for at := range 24 {
			shares[at]++
			mustRefuse(t, fueled(shares), was, e(nothing()), api.ErrFuel)
			shares[at] -= 2
			mustStep(t, fueled(shares), was, e(nothing()), after, want...)
			shares[at]++
		}
	}
}

// TestNoFuelForTheNext: where all is burnt, whatever comes next is refused, but a handler that has nothing more to reckon is done.
func TestNoFuelForTheNext(t *testing.T) {
	was := record("l", numbers(32))
	all := sets("a b c d e f g", burns(700), burns(700), burns(700), burns(700), burns(700), burns(590), num(1))
	all[6].Expr = burns(6)
	after := record("a b c d e f g l", append(slices.Repeat([]api.Value{truth(false)}, 7), numbers(32))...)
	mustStep(t, doing(record(""), all), was, e(nothing()), after)
	mustRefuse(t, doing(record(""), append(slices.Clone(all), set("h", yes()))), was, e(nothing()), api.ErrFuel)
	mustRefuse(t, doing(record(""), all, emit(no(), "n", no())), was, e(nothing()), api.ErrFuel)
	all[6].Expr = burns(5)
	mustStep(t, doing(record(""), all, emit(no(), "n", no())), was, e(nothing()), after)
	mustRefuse(t, doing(record(""), all, emit(yes(), "n", no())), was, e(nothing()), api.ErrFuel)
	mustRefuse(t, doing(record(""), all, emit(no(), "n", no()), emit(no(), "n", no())), was, e(nothing()), api.ErrFuel)
	all[6].Expr = burns(4)
	mustStep(t, doing(record(""), all, emit(yes(), "n", no())), was, e(nothing()), after, effect("n", truth(false)))
	mustStep(t, doing(record(""), all, emit(no(), "n", no()), emit(no(), "n", no())), was, e(nothing()), after)
}

// TestFuelAndOtherErrors: what comes first is told.
func TestFuelAndOtherErrors(t *testing.T) {
	was := record("l", numbers(32))
	all := sets("a b c d e f", burns(700), burns(700), burns(700), burns(700), burns(700), burns(590))
	for _, f := range failings() {
		for left := 3; left <= 9; left++ {
			want := f.err
			if 6-left < f.parts {
				want = api.ErrFuel
			}
			p := doing(record(""), append(slices.Clone(all), set("g", burns(left)), set("h", f.e)))
			mustRefuse(t, p, was, e(nothing()), want)
			p = doing(record(""), append(slices.Clone(all), set("g", burns(left))), emit(f.e, "n", yes()))
			mustRefuse(t, p, was, e(nothing()), want)
			p = doing(record(""), append([]reduce.Set{set("g", f.e)}, all...))
			mustRefuse(t, p, was, e(nothing()), f.err)
		}
	}
	wide := wideRecord(32)
	wide.Keys[31], wide.Items[31] = "l", numbers(32)
	mustRefuse(t, doing(record(""), append(slices.Clone(all), set("g", burns(6))), emit(yes(), "n", no())), wide, e(nothing()), api.ErrBig)
	mustRefuse(t, doing(record(""), append(slices.Clone(all), set("g", burns(7)))), wide, e(nothing()), api.ErrFuel)
}

// TestEachEventHasItsFuel: 4096 anew.
func TestEachEventHasItsFuel(t *testing.T) {
	p := doing(record("l", numbers(32)), sets("a b c d e f", burns(700), burns(700), burns(700), burns(700), burns(700), burns(596)))
	after := record("a b c d e f l", append(slices.Repeat([]api.Value{truth(false)}, 6), numbers(32))...)
	mustFold(t, p, slices.Repeat([]api.Event{e(nothing())}, 20), after, nil, 20, api.OK)
}

// TestBurns: the expressions of these tests burn what they say.
func TestBurns(t *testing.T) {
	for n := 3; n <= 900; n++ {
		if err := expr.Check(burns(n)); err != api.OK {
			t.Fatalf("the test's own expression that burns %d: %v", n, err)
		}
	}
}
