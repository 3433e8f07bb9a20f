package reduce

import (
	"slices"

	"fanlight/api"
	"fanlight/eval"
	"fanlight/expr"
	"fanlight/value"
)

// runner is what a handler's expressions read, and the fuel that is left for all of them. Its State may share lists with the state as it was: neither is ever changed, and what leaves is copied.
type runner struct {
	eval.Scope
	fuel int
}

// work takes handlers and a state that may be. It answers the state that follows and the effects, or else the refusal that e met. A panic that is no Errno is no refusal, so the assertion does not let it pass for an answer.
func work(handlers []Handler, state api.Value, e api.Event) (next api.Value, effects []api.Effect, err api.Errno) {
	defer func() {
		if thrown := recover(); thrown != nil {
			err = thrown.(api.Errno)
		}
	}()
	refuse(firstOf(ofName(e.Name), ofValue(e.Arg)))
	h := handlerOf(handlers, e.Name)
	r := runner{Scope: eval.Scope{State: state, Event: e.Arg}, fuel: api.MaxFuel}
	r.set(h.Sets)
	effects = r.emit(h.Emits)
	return r.State, effects, api.OK
}

func refuse(err api.Errno) {
	if err != api.OK {
		panic(err)
	}
}

func handlerOf(handlers []Handler, on string) Handler {
	at := placeOf(handlers, on)
	if at < 0 {
		panic(api.ErrNone)
	}
	return handlers[at]
}

// reckon answers a value in memory of its own.
func (r *runner) reckon(e expr.Expr) api.Value {
	told, left, err := eval.Eval(e, r.Scope, r.fuel)
	refuse(err)
	r.fuel = left
	return told
}

// set reckons all sets ahead of the first that is put in its place: each reads the state as it was. Only what follows of all of them may be too big, as of one key the last set counts.
func (r *runner) set(sets []Set) {
	var told []api.Value
	for _, s := range sets {
		told = append(told, r.reckon(s.Expr))
	}
	next := r.State
	next.Keys, next.Items = slices.Clone(next.Keys), slices.Clone(next.Items)
	for i, s := range sets {
		put(&next, s.Key, told[i])
	}
	if value.Check(next) != api.OK {
		panic(api.ErrBig)
	}
	r.State = next
}

// put gives the record that key, in its place in the order, and x to it.
func put(of *api.Value, key string, x api.Value) {
	at, there := slices.BinarySearch(of.Keys, key)
	if !there {
		of.Keys = slices.Insert(of.Keys, at, key)
		of.Items = slices.Insert(of.Items, at, api.Value{})
	}
	of.Items[at] = x
}

// emit answers the effects that are asked for of the state as it is now.
func (r *runner) emit(emits []Emit) []api.Effect {
	var effects []api.Effect
	for _, e := range emits {
		is, err := eval.True(r.reckon(e.When))
		refuse(err)
		if is {
			effects = append(effects, api.Effect{Name: e.Name, Arg: r.reckon(e.Arg)})
		}
	}
	return effects
}
