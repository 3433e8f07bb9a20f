package reduce_test

import (
	"slices"
	"testing"

	"fanlight/api"
	"fanlight/reduce"
)

// counter counts: up by one, by what comes along, and tells of what is even (in a list of the even ones below 10).
func counter() reduce.Program {
	return reduce.Program{
		Init: record("even n", list(number(0), number(2), number(4), number(6), number(8)), number(0)),
		Handlers: []reduce.Handler{
			{On: "up", Sets: sets("n", plus("n", 1)), Emits: []reduce.Emit{
				emit(op(opLess, num(0), op(opLen, op(opFilter, get("even"), op(opSame, item(), get("n"))))), "even", get("n")),
				emit(yes(), "is", get("n")),
			}},
			{On: "by", Sets: sets("n", op(opAdd, get("n"), event()))},
			{On: "stop", Sets: sets("n", op(opNot, get("n")))},
			{On: "tell", Emits: []reduce.Emit{emit(yes(), "is", get("n")), emit(event(), "more", get("n"))}},
		},
	}
}

func counted(n float64) api.Value {
	v := counter().Init
	v.Items[1] = number(n)
	return v
}

func TestFoldOfNoEvents(t *testing.T) {
	for _, v := range append(ofEachKind()[kindRecord], wideRecord(32), record("a", deep(7, nothing()))) {
		mustFold(t, reduce.Program{Init: v}, nil, v, nil, 0, api.OK)
		mustFold(t, doing(v, manySets(8), manyEmits(8)...), []api.Event{}, v, nil, 0, api.OK)
	}
}

func TestFoldOfAll(t *testing.T) {
	up, by := happening("up", nothing()), happening("by", number(0.5))
	mustFold(t, counter(), []api.Event{up}, counted(1), []api.Effect{effect("is", number(1))}, 1, api.OK)
	mustFold(t, counter(), []api.Event{up, up, by, by, up}, counted(4), []api.Effect{
		effect("is", number(1)), effect("even", number(2)), effect("is", number(2)), effect("even", number(4)), effect("is", number(4)),
	}, 5, api.OK)
	many := slices.Repeat([]api.Event{up}, 1000)
	v, l, n, err := reduce.Fold(counter(), many)
	if tell(v) != tell(counted(1000)) || len(l) != 1004 || n != 1000 || err != api.OK {
		t.Errorf("P16.2: Fold of 1000 events: %s, %d effects, %d, %v", tell(v), len(l), n, err)
	}
	for i, x := range l[12:] {
		if x.Name != "is" || tell(x.Arg) != tell(number(float64(i+9))) {
			t.Fatalf("P16.2: of 1000 events the effect %d is %s %s", i+12, x.Name, tell(x.Arg))
		}
	}
}

// TestFoldUpToARefusedEvent: wherever it stands, what was ahead of it is told, and nothing behind it is done.
func TestFoldUpToARefusedEvent(t *testing.T) {
	up := happening("up", nothing())
	for _, c := range []struct {
		bad api.Event
		err api.Errno
	}{
		{happening("", nothing()), api.ErrName},
		{happening(repeat("u", 17), nothing()), api.ErrName},
		{happening("", api.Value{Kind: 6}), api.ErrName},
		{happening("up", api.Value{Kind: 6}), api.ErrState},
		{happening("up", deep(9, nothing())), api.ErrDeep},
		{happening("up", ofParts(513)), api.ErrCount},
		{happening("down", api.Value{Kind: 6}), api.ErrState},
		{happening("down", nothing()), api.ErrNone},
		{happening("by", nothing()), api.ErrType},
		{happening("stop", nothing()), api.ErrType},
		{happening("tell", nothing()), api.ErrType},
	} {
		for n := range 5 {
			for at := range n + 1 {
				l := slices.Insert(slices.Repeat([]api.Event{up}, n), at, c.bad)
				_, effects, _, _ := reduce.Fold(counter(), l[:at])
				mustFold(t, counter(), l, counted(float64(at)), effects, at, c.err)
				mustFold(t, counter(), append(l, c.bad, happening("", nothing())), counted(float64(at)), effects, at, c.err)
			}
		}
	}
}

// TestARefusedEventChangesNothing: P16.3: though its sets could be reckoned and an emit ahead of the faulty one was asked for.
func TestARefusedEventChangesNothing(t *testing.T) {
	for _, f := range failings() {
		p := doing(record("n", number(0)), sets("n new", plus("n", 1), yes()),
			emit(yes(), "first", get("n")), emit(op(opSame, event(), str("x")), "second", f.e), emit(yes(), "third", get("n")))
		one := record("n new", number(1), truth(true))
		effects := []api.Effect{effect("first", number(1)), effect("third", number(1))}
		mustFold(t, p, []api.Event{e(text("x"))}, p.Init, nil, 0, f.err)
		mustFold(t, p, []api.Event{e(nothing()), e(text("x")), e(nothing())}, one, effects, 1, f.err)
		mustRefuse(t, p, one, e(text("x")), f.err)
		mustStep(t, p, one, e(nothing()), record("n new", number(2), truth(true)), effect("first", number(2)), effect("third", number(2)))
	}
}

// TestFoldOfTwoParts: as in one, and as step by step.
func TestFoldOfTwoParts(t *testing.T) {
	names := []string{"up", "up", "by", "tell", "up", "by", "up", "tell", "up"}
	var l []api.Event
	for i, name := range names {
		arg := number(float64(i % 3))
		if name == "tell" {
			arg = truth(i > 4)
		}
		l = append(l, happening(name, arg))
	}
	whole, effects, done, err := reduce.Fold(counter(), l)
	if done != len(l) || err != api.OK {
		t.Fatalf("P16.2: Fold: %d, %v", done, err)
	}
	for at := range len(l) + 1 {
		first, ahead, _, _ := reduce.Fold(counter(), l[:at])
		p := counter()
		p.Init = first
		mustFold(t, p, l[at:], whole, effects[len(ahead):], len(l)-at, api.OK)
		for _, x := range l[at:] {
			next, more, err := reduce.Step(counter(), first, x)
			if err != api.OK {
				t.Fatalf("P16.2: Step: %v", err)
			}
			first, ahead = next, append(ahead, more...)
		}
		if tell(first) != tell(whole) || tellEffects(ahead) != tellEffects(effects) {
			t.Errorf("P16.2: in steps from %d on: %s, %s, want %s, %s", at, tell(first), tellEffects(ahead), tell(whole), tellEffects(effects))
		}
	}
}

// TestStepHangsNotOnInit: Init is where Fold begins, and nothing else.
func TestStepHangsNotOnInit(t *testing.T) {
	p := doing(record("n", number(7)), sets("k", state()), emit(yes(), "tell", state()))
	after := record("k", record(""))
	mustStep(t, p, record(""), e(nothing()), after, effect("tell", after))
	mustTellErr(t, doing(record("n", number(7)), sets("k", get("n"))), record(""), e(nothing()), api.ErrNone)
}

// TestStateThatGrows: till it would be too big; P16.4: what follows may be.
func TestStateThatGrows(t *testing.T) {
	p := doing(record("l", list()), sets("l", op(opPush, get("l"), event())))
	mustFold(t, p, slices.Repeat([]api.Event{e(nothing())}, 40), record("l", list(slices.Repeat([]api.Value{nothing()}, 32)...)), nil, 32, api.ErrBig)
	p = doing(record("l", nothing()), sets("l", op(opList, get("l"))))
	mustFold(t, p, slices.Repeat([]api.Event{e(nothing())}, 40), record("l", deep(7, nothing())), nil, 6, api.ErrBig)
	p = doing(record("l", nothing()), sets("l", op(opList, get("l"), get("l"))))
	v, _, n, err := reduce.Fold(p, slices.Repeat([]api.Event{e(nothing())}, 40))
	if n != 6 || err != api.ErrBig || reduce.Check(reduce.Program{Init: v}) != api.OK {
		t.Errorf("P16.4: a state that doubles: %s, %d, %v", tell(v), n, err)
	}
}
