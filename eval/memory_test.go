package eval_test

import (
	"math/rand"
	"slices"
	"sync"
	"testing"
	"unsafe"

	"fanlight/api"
	"fanlight/eval"
	"fanlight/expr"
)

// span is memory, from its first octet to behind its last.
type span struct {
	from, to uintptr
}

func spanOf[T any](l []T) []span {
	if cap(l) == 0 {
		return nil
	}
	var one T
	from := uintptr(unsafe.Pointer(unsafe.SliceData(l)))
	return []span{{from, from + uintptr(cap(l))*unsafe.Sizeof(one)}}
}

// spans are the memory of all lists within v, of each to its whole capacity.
func spans(v api.Value) []span {
	all := append(spanOf(v.Keys), spanOf(v.Items)...)
	for _, item := range v.Items {
		all = append(all, spans(item)...)
	}
	return all
}

// share tells whether two of the spans lie in one memory.
func share(lists ...[]span) bool {
	all := slices.Concat(lists...)
	slices.SortFunc(all, func(a, b span) int { return int(a.from) - int(b.from) })
	for i := 1; i < len(all); i++ {
		if all[i].from < all[i-1].to {
			return true
		}
	}
	return false
}

// roomy is v with room behind the last of each list, into which a careless call could write.
func roomy(v api.Value) api.Value {
	v.Keys = append(make([]string, 0, len(v.Keys)+3), v.Keys...)
	items := make([]api.Value, 0, len(v.Items)+3)
	for _, item := range v.Items {
		items = append(items, roomy(item))
	}
	v.Items = items
	return v
}

// behind tells v and what lies behind the last of its lists.
func behind(v api.Value) string {
	v.Keys = v.Keys[:cap(v.Keys)]
	v.Items = slices.Clone(v.Items[:cap(v.Items)])
	s := ""
	for _, item := range v.Items {
		s += behind(item)
	}
	return tell(v) + s
}

func behindScope(s eval.Scope) string {
	return behind(s.State) + behind(s.Event) + behind(s.Item)
}

// roomyExpr is e with room behind the last of all Args.
func roomyExpr(e expr.Expr) expr.Expr {
	args := make([]expr.Expr, 0, len(e.Args)+2)
	for _, arg := range e.Args {
		args = append(args, roomyExpr(arg))
	}
	e.Args = args
	return e
}

// behindExpr tells e with its Args to their whole capacity.
func behindExpr(e expr.Expr) string {
	s := tellExpr(expr.Expr{Op: e.Op, Bits: e.Bits, Text: e.Text})
	for _, arg := range e.Args[:cap(e.Args)] {
		s += behindExpr(arg)
	}
	return s
}

// spoil changes all that v has.
func spoil(v *api.Value) {
	for i := range v.Items {
		spoil(&v.Items[i])
	}
	for i := range v.Keys {
		v.Keys[i] = "changed"
	}
	v.Kind, v.Bits, v.Text = -1, 7, "changed"
}

// mustShareNothing makes the call twice and holds that neither answer shares a list with itself, with the other or with what was handed in, and that this has stayed.
func mustShareNothing(t *testing.T, e expr.Expr, s eval.Scope) {
	t.Helper()
	e, s = roomyExpr(e), eval.Scope{State: roomy(s.State), Event: roomy(s.Event), Item: roomy(s.Item)}
	wasExpr, wasScope := behindExpr(e), behindScope(s)
	v, _, err := full(e, s)
	w, _, _ := full(e, s)
	if share(spans(v), spans(w), spans(s.State), spans(s.Event), spans(s.Item)) {
		t.Fatalf("P15.4: Eval(%s; %s) shares memory", tellExpr(e), tellScope(s))
	}
	told := tell(v)
	spoil(&v)
	if behindExpr(e) != wasExpr || behindScope(s) != wasScope {
		t.Fatalf("P15.4: Eval(%s; %s), or a change of its answer, has changed what was handed in", tellExpr(e), tellScope(s))
	}
	if tell(w) != told && err == api.OK {
		t.Fatalf("P15.4: Eval(%s; %s): a change of one answer has changed another", tellExpr(e), tellScope(s))
	}
	spoil(&s.State)
	spoil(&s.Event)
	spoil(&s.Item)
	if tell(w) != told && err == api.OK {
		t.Fatalf("P15.4: Eval(%s; %s): a change of the scope has changed the answer", tellExpr(e), tellScope(s))
	}
}

func TestNothingIsShared(t *testing.T) {
	l := list(numbers(2), list(), record("a b", list(text("x")), nothing()))
	r := record("a b", numbers(2), record("c", list(nothing())))
	s := scope(l, r, list(l, l))
	for _, e := range []expr.Expr{
		op(opNothing), state(), event(), item(), str("x"), num(1),
		get("b", event()), op(opAt, state(), num(2)), op(opIf, yes(), state(), event()),
		op(opList), op(opList, state()), op(opList, state(), state()), op(opList, state(), event(), event()),
		op(opPush, state(), state()), op(opPush, state(), op(opPush, state(), event())), op(opPush, op(opList), op(opList)),
		with("a", event(), event()), with("c", event(), event()), with("A", event(), state()), with("k", get("b", event()), op(opList)),
		op(opMap, state(), item()), op(opMap, state(), event()), op(opMap, item(), item()), op(opMap, state(), op(opList, item(), item())),
		op(opFilter, state(), yes()), op(opFilter, item(), yes()), op(opFilter, state(), no()), op(opFind, state(), yes()), op(opFind, item(), yes()),
		op(opList, op(opFilter, state(), yes()), op(opFilter, state(), yes()), op(opFind, state(), yes())),
		op(opNot, state()), op(opMap, state(), op(opNot, item())), op(opPush, event(), state()), with("a", state(), state()),
	} {
		mustShareNothing(t, e, s)
	}
}

func TestNothingIsSharedByChance(t *testing.T) {
	r := rand.New(rand.NewSource(154))
	for range 2500 {
		mustShareNothing(t, someExpr(r), eval.Scope{State: someState(r), Event: someState(r), Item: someItem(r)})
	}
}

// TestOneListTwiceInAScope: lists that lie twice in what is handed in are two in the answer.
func TestOneListTwiceInAScope(t *testing.T) {
	inner := numbers(3)
	l := list(inner, inner)
	s := eval.Scope{State: l, Event: l, Item: l}
	for _, e := range []expr.Expr{state(), op(opList, state(), event(), item()), op(opMap, state(), state()), op(opPush, item(), event())} {
		v, _, err := full(e, s)
		if err != api.OK || share(spans(v), spanOf(inner.Items), spanOf(l.Items)) {
			t.Errorf("P15.4: Eval(%s) of a scope whose lists are one: %v, or it shares memory", tellExpr(e), err)
		}
	}
	if tell(l) != tell(list(numbers(3), numbers(3))) {
		t.Errorf("P15.4: the scope was changed to %s", tell(l))
	}
}

// TestRefusingChangesNothing: what is refused stays, and so does what True is asked of.
func TestRefusingChangesNothing(t *testing.T) {
	for _, l := range faultyValues() {
		for _, bad := range l {
			if len(bad.Items) == 1 && len(bad.Items[0].Items) == 1 && unsafe.SliceData(bad.Items) == unsafe.SliceData(bad.Items[0].Items) {
				continue
			}
			v := roomy(bad)
			was := behind(v)
			eval.Eval(state(), scope(v), 9)
			eval.Eval(state(), scope(nothing(), v), 9)
			eval.Eval(state(), scope(nothing(), nothing(), v), 9)
			eval.True(v)
			if behind(v) != was {
				t.Errorf("P15.4: refusing has changed %s to %s", was, behind(v))
			}
		}
	}
	v := roomy(truth(true))
	was := behind(v)
	if eval.True(v); behind(v) != was {
		t.Errorf("P15.4: True has changed %s to %s", was, behind(v))
	}
}

// TestNilAndEmptyAreOne: P1: an answer does not hang on how an empty list was handed in.
func TestNilAndEmptyAreOne(t *testing.T) {
	empty := func(kind int) api.Value { return api.Value{Kind: kind, Keys: []string{}, Items: []api.Value{}} }
	for _, e := range []expr.Expr{state(), op(opList, state()), op(opPush, event(), state()), with("k", item(), state()), op(opFilter, event(), yes()), op(opMap, event(), yes())} {
		for kind := range kindRecord + 1 {
			v, _, err := full(e, eval.Scope{State: empty(kind), Event: empty(kindList), Item: empty(kindRecord)})
			w, _, werr := full(e, eval.Scope{State: api.Value{Kind: kind}, Event: api.Value{Kind: kindList}, Item: api.Value{Kind: kindRecord}})
			if tell(v) != tell(w) || nils(v) != nils(w) || err != werr {
				t.Errorf("P1: Eval(%s) tells nil and empty lists of kind %d apart: %s, %v and %s, %v", tellExpr(e), kind, tell(v), err, tell(w), werr)
			}
		}
	}
	e := expr.Expr{Op: opState, Args: []expr.Expr{}}
	if v, left, err := eval.Eval(e, scope(text("x")), 1); tell(v) != tell(text("x")) || left != 0 || err != api.OK {
		t.Errorf("P1: Eval of a part with empty Args: %s, %d, %v", tell(v), left, err)
	}
}

// nils counts the lists within v that are nil.
func nils(v api.Value) int {
	n := 0
	if v.Keys == nil {
		n++
	}
	if v.Items == nil {
		n++
	}
	for _, item := range v.Items {
		n += nils(item)
	}
	return n
}

// TestAnswersAreOnceForAll: P3: what is answered hangs on the arguments alone, not on calls ahead nor on those at the same time.
func TestAnswersAreOnceForAll(t *testing.T) {
	r := rand.New(rand.NewSource(153))
	type call struct {
		e expr.Expr
		s eval.Scope
	}
	var calls []call
	for range 500 {
		calls = append(calls, call{someExpr(r), eval.Scope{State: someState(r), Event: someState(r), Item: someItem(r)}})
	}
	var all sync.WaitGroup
	for n := range 4 {
		all.Go(func() {
			for i := range calls {
				c := calls[(i*(n+1)*7+n)%len(calls)]
				want, wleft, werr := slow(c.e, c.s, 300)
				v, left, err := eval.Eval(c.e, c.s, 300)
				if tell(v) != tell(want) || left != wleft || err != werr {
					t.Errorf("P3: Eval(%s; %s) is not the same each time", tellExpr(c.e), tellScope(c.s))
				}
			}
		})
	}
	all.Wait()
}
