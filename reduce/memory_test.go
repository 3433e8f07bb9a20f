package reduce_test

import (
	"math/rand"
	"slices"
	"sync"
	"testing"
	"unsafe"

	"fanlight/api"
	"fanlight/expr"
	"fanlight/reduce"
)

// span is memory, from its first octet to behind its last.
type span struct {
	from, to uintptr
}

func spanOf[T any](l []T) []span {
	if cap(l) == 0 {
		return nil
	}
	var one T
	from := uintptr(unsafe.Pointer(unsafe.SliceData(l)))
	return []span{{from, from + uintptr(cap(l))*unsafe.Sizeof(one)}}
}

// spans are the memory of all lists within v, of each to its whole capacity.
func spans(v api.Value) []span {
	all := append(spanOf(v.Keys), spanOf(v.Items)...)
	for _, item := range v.Items {
		all = append(all, spans(item)...)
	}
	return all
}

func spansOfEffects(l []api.Effect) []span {
	all := spanOf(l)
	for _, x := range l {
		all = append(all, spans(x.Arg)...)
	}
	return all
}

func spansOfEvents(l []api.Event) []span {
	all := spanOf(l)
	for _, x := range l {
		all = append(all, spans(x.Arg)...)
	}
	return all
}

// share tells whether two of the spans lie in one memory.
func share(lists ...[]span) bool {
	all := slices.Concat(lists...)
	slices.SortFunc(all, func(a, b span) int { return int(a.from) - int(b.from) })
	for i := 1; i < len(all); i++ {
		if all[i].from < all[i-1].to {
			return true
		}
	}
	return false
}

// roomy is v with room behind the last of each list, into which a careless call could write.
func roomy(v api.Value) api.Value {
	v.Keys = append(make([]string, 0, len(v.Keys)+3), v.Keys...)
	items := make([]api.Value, 0, len(v.Items)+3)
	for _, item := range v.Items {
		items = append(items, roomy(item))
	}
	v.Items = items
	return v
}

func roomyExpr(e expr.Expr) expr.Expr {
	args := make([]expr.Expr, 0, len(e.Args)+2)
	for _, arg := range e.Args {
		args = append(args, roomyExpr(arg))
	}
	e.Args = args
	return e
}

func roomyProgram(p reduce.Program) reduce.Program {
	p.Init = roomy(p.Init)
	handlers := make([]reduce.Handler, 0, len(p.Handlers)+2)
	for _, h := range p.Handlers {
		s, l := make([]reduce.Set, 0, len(h.Sets)+2), make([]reduce.Emit, 0, len(h.Emits)+2)
		for _, x := range h.Sets {
			s = append(s, set(x.Key, roomyExpr(x.Expr)))
		}
		for _, x := range h.Emits {
			l = append(l, emit(roomyExpr(x.When), x.Name, roomyExpr(x.Arg)))
		}
		handlers = append(handlers, reduce.Handler{On: h.On, Sets: s, Emits: l})
	}
	p.Handlers = handlers
	return p
}

func roomyEvents(l []api.Event) []api.Event {
	all := make([]api.Event, 0, len(l)+2)
	for _, x := range l {
		all = append(all, happening(x.Name, roomy(x.Arg)))
	}
	return all
}

// behind tells v and what lies behind the last of its lists.
func behind(v api.Value) string {
	v.Keys = v.Keys[:cap(v.Keys)]
	v.Items = slices.Clone(v.Items[:cap(v.Items)])
	s := ""
	for _, item := range v.Items {
		s += behind(item)
	}
	return tell(v) + s
}

func behindExpr(e expr.Expr) string {
	s := tellExpr(expr.Expr{Op: e.Op, Bits: e.Bits, Text: e.Text})
	for _, arg := range e.Args[:cap(e.Args)] {
		s += behindExpr(arg)
	}
	return s
}

func behindProgram(p reduce.Program) string {
	s := behind(p.Init)
	for _, h := range p.Handlers[:cap(p.Handlers)] {
		s += " on " + h.On
		for _, x := range h.Sets[:cap(h.Sets)] {
			s += " set " + x.Key + behindExpr(x.Expr)
		}
		for _, x := range h.Emits[:cap(h.Emits)] {
			s += " when " + behindExpr(x.When) + x.Name + behindExpr(x.Arg)
		}
	}
	return s
}

func behindEvents(l []api.Event) string {
	s := ""
	for _, x := range l[:cap(l)] {
		s += " " + x.Name + behind(x.Arg)
	}
	return s
}

// spoil changes all that v has.
func spoil(v *api.Value) {
	for i := range v.Items {
		spoil(&v.Items[i])
	}
	for i := range v.Keys {
		v.Keys[i] = "changed"
	}
	v.Kind, v.Bits, v.Text = -1, 7, "changed"
}

func spoilEffects(l []api.Effect) {
	for i := range l {
		spoil(&l[i].Arg)
		l[i].Name = "changed"
	}
}

func spoilEvents(l []api.Event) {
	for i := range l {
		spoil(&l[i].Arg)
		l[i].Name = "changed"
	}
}

// mustShareNothing makes the call twice and holds that neither answer shares a list with itself, with the other or with what was handed in, and that this has stayed.
func mustShareNothing(t *testing.T, what string, p reduce.Program, v api.Value, l []api.Event, call func(p reduce.Program, v api.Value, l []api.Event) (api.Value, []api.Effect)) {
	t.Helper()
	p, v, l = roomyProgram(p), roomy(v), roomyEvents(l)
	was := behindProgram(p) + behind(v) + behindEvents(l)
	a, asked := call(p, v, l)
	b, again := call(p, v, l)
	if share(spans(a), spansOfEffects(asked), spans(b), spansOfEffects(again), spans(p.Init), spans(v), spansOfEvents(l)) {
		t.Fatalf("P16.5: %s(%s; %s; %s) shares memory", what, tellProgram(p), tell(v), tellEvents(l))
	}
	told := tell(a) + tellEffects(asked)
	spoil(&a)
	spoilEffects(asked)
	if behindProgram(p)+behind(v)+behindEvents(l) != was {
		t.Fatalf("P16.5: %s(%s; %s; %s), or a change of its answer, has changed what was handed in", what, tellProgram(p), tell(v), tellEvents(l))
	}
	spoil(&v)
	spoilEvents(l)
	if tell(b)+tellEffects(again) != told {
		t.Fatalf("P16.5: %s(%s): a change of what was handed in, or of another answer, has changed the answer", what, tellProgram(p))
	}
}

func step(p reduce.Program, v api.Value, l []api.Event) (api.Value, []api.Effect) {
	next, effects, _ := reduce.Step(p, v, l[0])
	return next, effects
}

func fold(p reduce.Program, v api.Value, l []api.Event) (api.Value, []api.Effect) {
	p.Init = v
	next, effects, _, _ := reduce.Fold(p, l)
	return next, effects
}

func TestNothingIsShared(t *testing.T) {
	v := record("l r z", list(numbers(2), list(), record("a b", list(text("x")), nothing())), record("a b", numbers(2), record("c", list(nothing()))), nothing())
	arg := list(numbers(3), record("k", numbers(1)))
	for _, p := range []reduce.Program{
		doing(record(""), nil),
		doing(record(""), nil, emit(yes(), "n", state())),
		doing(record(""), nil, emit(yes(), "n", state()), emit(yes(), "n", state()), emit(yes(), "n", event()), emit(yes(), "n", event())),
		doing(record(""), sets("l r z", get("l"), get("r"), get("z"))),
		doing(record(""), sets("a b c", get("l"), get("l"), event())),
		doing(record(""), sets("a b", state(), state())),
		doing(record(""), sets("l", event()), emit(yes(), "n", get("l")), emit(yes(), "n", get("r")), emit(yes(), "n", op(opList, get("r"), event(), get("r")))),
		doing(record(""), sets("z", op(opPush, get("l"), get("r")))),
		doing(record(""), sets("r", expr.Expr{Op: opWith, Text: "a", Args: []expr.Expr{get("r"), get("l")}})),
		doing(record(""), sets("a"+" l", get("l"), op(opNot, yes())), emit(op(opNot, num(1)), "n", state())),
		doing(record(""), sets("a", op(opNot, get("l")))),
	} {
		for n := 1; n < 4; n++ {
			l := slices.Repeat([]api.Event{e(arg)}, n)
			mustShareNothing(t, "Step", p, v, l, step)
			mustShareNothing(t, "Fold", p, v, l, fold)
			mustShareNothing(t, "Fold", p, v, append(l, happening("f", arg)), fold)
			mustShareNothing(t, "Fold", p, v, append(l, happening("", arg), e(arg)), fold)
		}
		mustShareNothing(t, "Fold", p, v, nil, fold)
	}
}

func TestNothingIsSharedByChance(t *testing.T) {
	r := rand.New(rand.NewSource(165))
	for range 400 {
		p, l := someProgram(r), someEvents(r)
		mustShareNothing(t, "Fold", p, someState(r), l, fold)
		if len(l) > 0 {
			mustShareNothing(t, "Step", p, someState(r), l, step)
		}
	}
}

// TestOneListTwice: lists that lie twice in what is handed in are two in the answer.
func TestOneListTwice(t *testing.T) {
	inner := numbers(3)
	v := record("a b", inner, inner)
	p := doing(v, sets("c", event()), emit(yes(), "n", get("a")), emit(yes(), "n", get("b")))
	next, effects, err := reduce.Step(p, v, e(inner))
	if err != api.OK || share(spans(next), spansOfEffects(effects), spanOf(inner.Items), spanOf(v.Items), spanOf(v.Keys)) {
		t.Errorf("P16.5: Step of lists that are one: %v, or it shares memory", err)
	}
	next, effects, n, err := reduce.Fold(p, []api.Event{e(inner), e(v), e(inner)})
	if err != api.OK || n != 3 || share(spans(next), spansOfEffects(effects), spanOf(inner.Items), spanOf(v.Items), spanOf(v.Keys)) {
		t.Errorf("P16.5: Fold of lists that are one: %d, %v, or it shares memory", n, err)
	}
	next, _, _, _ = reduce.Fold(p, nil)
	if share(spans(next), spanOf(inner.Items), spanOf(v.Items), spanOf(v.Keys)) {
		t.Errorf("P16.5: Fold of no events shares memory")
	}
	if tell(v) != tell(record("a b", numbers(3), numbers(3))) {
		t.Errorf("P16.5: what was handed in was changed to %s", tell(v))
	}
}

// TestRefusingChangesNothing: what is refused stays.
func TestRefusingChangesNothing(t *testing.T) {
	for _, bad := range faultyValues() {
		v := roomy(bad.v)
		was := behind(v)
		p := doing(record(""), sets("k", event()), emit(yes(), "n", state()))
		reduce.Step(p, v, e(nothing()))
		reduce.Step(p, record(""), e(v))
		reduce.Fold(p, []api.Event{e(nothing()), e(v)})
		reduce.Fold(reduce.Program{Init: v}, nil)
		reduce.Check(reduce.Program{Init: v})
		if behind(v) != was {
			t.Errorf("P16.5: refusing has changed %s to %s", was, behind(v))
		}
	}
	r := rand.New(rand.NewSource(1651))
	for range 500 {
		p := spoilt(r, someProgram(r))
		was := behindProgram(p)
		reduce.Check(p)
		reduce.Step(p, record(""), e(nothing()))
		reduce.Fold(p, []api.Event{e(nothing())})
		if behindProgram(p) != was {
			t.Errorf("P16.5: a program that was refused is changed")
		}
	}
}

// TestNilAndEmptyAreOne: P1: an answer does not hang on how an empty list was handed in.
func TestNilAndEmptyAreOne(t *testing.T) {
	empty := func(kind int) api.Value { return api.Value{Kind: kind, Keys: []string{}, Items: []api.Value{}} }
	no := expr.Expr{Op: opState, Args: []expr.Expr{}}
	full := reduce.Program{Init: empty(kindRecord), Handlers: []reduce.Handler{{On: "e", Sets: []reduce.Set{}, Emits: []reduce.Emit{}}, {On: "f", Sets: sets("k", no), Emits: []reduce.Emit{emit(expr.Expr{Op: opTrue, Args: []expr.Expr{}}, "n", no)}}}}
	bare := reduce.Program{Init: record(""), Handlers: []reduce.Handler{{On: "e"}, {On: "f", Sets: sets("k", state()), Emits: []reduce.Emit{emit(yes(), "n", state())}}}}
	for _, name := range []string{"e", "f"} {
		for kind := range kindRecord + 1 {
			v, l, err := reduce.Step(full, empty(kindRecord), happening(name, empty(kind)))
			w, m, werr := reduce.Step(bare, api.Value{Kind: kindRecord}, happening(name, api.Value{Kind: kind}))
			if tell(v) != tell(w) || tellEffects(l) != tellEffects(m) || err != api.OK || werr != api.OK || nils(v) != nils(w) || (l == nil) != (m == nil) {
				t.Errorf("P1: Step of %s tells nil and empty lists of kind %d apart: %s, %v and %s, %v", name, kind, tell(v), err, tell(w), werr)
			}
		}
		v, l, n, err := reduce.Fold(full, []api.Event{happening(name, empty(kindList))})
		w, m, wn, werr := reduce.Fold(bare, []api.Event{happening(name, list())})
		if tell(v) != tell(w) || tellEffects(l) != tellEffects(m) || n != 1 || wn != 1 || err != api.OK || werr != api.OK || nils(v) != nils(w) {
			t.Errorf("P1: Fold of %s tells nil and empty lists apart: %s, %v and %s, %v", name, tell(v), err, tell(w), werr)
		}
	}
	v, l, n, err := reduce.Fold(full, []api.Event{})
	w, m, wn, werr := reduce.Fold(bare, nil)
	if tell(v) != tell(w) || nils(v) != nils(w) || l != nil || m != nil || n != 0 || wn != 0 || err != api.OK || werr != api.OK {
		t.Errorf("P1: Fold of no events tells nil and empty lists apart: %s, %v and %s, %v", tell(v), err, tell(w), werr)
	}
	if err := reduce.Check(reduce.Program{Init: empty(kindRecord), Handlers: []reduce.Handler{}}); err != api.OK {
		t.Errorf("P1: Check of a program with empty lists: %v", err)
	}
}

// nils counts the lists within v that are nil.
func nils(v api.Value) int {
	n := 0
	if v.Keys == nil {
		n++
	}
	if v.Items == nil {
		n++
	}
	for _, item := range v.Items {
		n += nils(item)
	}
	return n
}

// TestAnswersAreOnceForAll: P3: what is answered hangs on the arguments alone, not on calls ahead nor on those at the same time.
func TestAnswersAreOnceForAll(t *testing.T) {
	r := rand.New(rand.NewSource(1653))
	type call struct {
		p    reduce.Program
		l    []api.Event
		want string
		done int
		err  api.Errno
	}
	var calls []call
	for range 300 {
		c := call{p: someProgram(r), l: someEvents(r)}
		v, l, n, err := reduce.Fold(c.p, c.l)
		c.want, c.done, c.err = tell(v)+tellEffects(l), n, err
		calls = append(calls, c)
	}
	var all sync.WaitGroup
	for n := range 4 {
		all.Go(func() {
			for i := range calls {
				c := calls[(i*(n+1)*7+n)%len(calls)]
				v, l, done, err := reduce.Fold(c.p, c.l)
				if tell(v)+tellEffects(l) != c.want || done != c.done || err != c.err {
					t.Errorf("P3: Fold(%s) is not the same each time", tellProgram(c.p))
				}
			}
		})
	}
	all.Wait()
}
