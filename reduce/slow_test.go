package reduce_test

import (
	"math/rand"
	"slices"
	"testing"

	"fanlight/api"
	"fanlight/eval"
	"fanlight/expr"
	"fanlight/reduce"
	"fanlight/value"
)

// slowCheck gathers all faults in the chapter's order, and takes the first.
func slowCheck(p reduce.Program) api.Errno {
	all := []api.Errno{value.Check(p.Init)}
	if p.Init.Kind != kindRecord {
		all = append(all, api.ErrType)
	}
	if len(p.Handlers) > 16 {
		all = append(all, api.ErrCount)
	}
	ons := map[string]bool{}
	twice := false
	for _, h := range p.Handlers {
		if len(h.Sets) > 8 || len(h.Emits) > 8 {
			all = append(all, api.ErrCount)
		}
		all = append(all, slowName(h.On))
		for _, s := range h.Sets {
			all = append(all, slowName(s.Key), expr.Check(s.Expr))
		}
		for _, x := range h.Emits {
			all = append(all, expr.Check(x.When), slowName(x.Name), expr.Check(x.Arg))
		}
		twice = twice || ons[h.On]
		ons[h.On] = true
	}
	if twice {
		all = append(all, api.ErrTwice)
	}
	for _, err := range all {
		if err != api.OK {
			return err
		}
	}
	return api.OK
}

func slowName(s string) api.Errno {
	if n := len([]byte(s)); n < 1 || n > 16 {
		return api.ErrName
	}
	return api.OK
}

// slowStep does one event by the chapter's words, one after the other, of a program that may be.
func slowStep(p reduce.Program, was api.Value, x api.Event) (api.Value, []api.Effect, api.Errno) {
	refused := func(err api.Errno) (api.Value, []api.Effect, api.Errno) { return nothing(), nil, err }
	if err := value.Check(was); err != api.OK {
		return refused(err)
	} else if was.Kind != kindRecord {
		return refused(api.ErrType)
	} else if err := slowName(x.Name); err != api.OK {
		return refused(err)
	} else if err := value.Check(x.Arg); err != api.OK {
		return refused(err)
	}
	for _, h := range p.Handlers {
		if h.On != x.Name {
			continue
		}
		fuel := 4096
		items := map[string]api.Value{}
		for i, key := range was.Keys {
			items[key] = was.Items[i]
		}
		for _, s := range h.Sets {
			v, left, err := eval.Eval(s.Expr, eval.Scope{State: was, Event: x.Arg}, fuel)
			if err != api.OK {
				return refused(err)
			}
			fuel, items[s.Key] = left, v
		}
		next := recordOf(items)
		if value.Check(next) != api.OK {
			return refused(api.ErrBig)
		}
		var effects []api.Effect
		for _, m := range h.Emits {
			is, left, err := eval.Eval(m.When, eval.Scope{State: next, Event: x.Arg}, fuel)
			if err != api.OK {
				return refused(err)
			}
			if fuel = left; is.Kind != kindTruth {
				return refused(api.ErrType)
			}
			if is.Bits == 0 {
				continue
			}
			arg, left, err := eval.Eval(m.Arg, eval.Scope{State: next, Event: x.Arg}, fuel)
			if err != api.OK {
				return refused(err)
			}
			fuel, effects = left, append(effects, api.Effect{Name: m.Name, Arg: arg})
		}
		return next, effects, api.OK
	}
	return refused(api.ErrNone)
}

func recordOf(items map[string]api.Value) api.Value {
	made := record("")
	for key := range items {
		made.Keys = append(made.Keys, key)
	}
	slices.Sort(made.Keys)
	for _, key := range made.Keys {
		made.Items = append(made.Items, items[key])
	}
	return made
}

// TestByChance: programs and events from a fixed rule, most of which can be done, held against the slow way.
func TestByChance(t *testing.T) {
	r := rand.New(rand.NewSource(16))
	told := map[api.Errno]int{}
	done, asked := 0, 0
	for range 6000 {
		p, l := someProgram(r), someEvents(r)
		if err := reduce.Check(p); err != api.OK {
			t.Fatalf("the program of the test may not be: %s: %v", tellProgram(p), err)
		}
		was := p.Init
		var effects []api.Effect
		n, stopped := 0, api.OK
		for ; n < len(l) && stopped == api.OK; n++ {
			next, more, err := slowStep(p, was, l[n])
			v, got, goterr := reduce.Step(p, was, l[n])
			if tell(v) != tell(next) || tellEffects(got) != tellEffects(more) || goterr != err || err != api.OK && (!isZero(v) || got != nil) {
				t.Fatalf("P16.2: Step(%s; %s, %s): %s, %s, %v, want %s, %s, %v", tellProgram(p), tell(was), tellEvents(l[n:n+1]), tell(v), tellEffects(got), goterr, tell(next), tellEffects(more), err)
			}
			if told[err]++; err != api.OK {
				stopped = err
				break
			}
			if value.Check(v) != api.OK || v.Kind != kindRecord {
				t.Fatalf("P16.4: Step(%s; %s, %s): %s is no state", tellProgram(p), tell(was), tellEvents(l[n:n+1]), tell(v))
			}
			was, effects = next, append(effects, more...)
		}
		mustFold(t, p, l, was, effects, n, stopped)
		done, asked = done+n, asked+len(effects)
	}
	for _, err := range []api.Errno{api.OK, api.ErrType, api.ErrNone, api.ErrBig, api.ErrName, api.ErrState, api.ErrDeep, api.ErrCount} {
		if told[err] < 20 {
			t.Errorf("error %v was to be told only %d times", err, told[err])
		}
	}
	if done < 6000 || asked < 3000 {
		t.Errorf("only %d events were to be done, and %d effects asked for", done, asked)
	}
}

// TestCheckByChance: programs with a fault or two, held against the slow way.
func TestCheckByChance(t *testing.T) {
	r := rand.New(rand.NewSource(161))
	told := map[api.Errno]int{}
	for range 8000 {
		p := spoilt(r, someProgram(r))
		want := slowCheck(p)
		told[want]++
		if err := reduce.Check(p); err != want {
			t.Fatalf("P16.1: Check of a program with faults: %v, want %v", err, want)
		}
		if want == api.OK {
			continue
		}
		v, l, err := reduce.Step(p, record(""), happening("up", nothing()))
		w, m, n, ferr := reduce.Fold(p, []api.Event{happening("up", nothing())})
		if !isZero(v) || l != nil || err != want || !isZero(w) || m != nil || n != 0 || ferr != want {
			t.Fatalf("P16.2, P4: Step and Fold of a program with faults: %v, %v, want %v and nothing else", err, ferr, want)
		}
	}
	for _, err := range []api.Errno{api.OK, api.ErrType, api.ErrState, api.ErrDeep, api.ErrCount, api.ErrName, api.ErrTwice} {
		if told[err] < 100 {
			t.Errorf("error %v was to be told only %d times", err, told[err])
		}
	}
}

// TestKeysThatAreNotSetStay: whatever a handler sets.
func TestKeysThatAreNotSetStay(t *testing.T) {
	r := rand.New(rand.NewSource(163))
	kept := 0
	for range 3000 {
		p, was := someProgram(r), someState(r)
		for _, h := range p.Handlers {
			next, _, err := reduce.Step(p, was, happening(h.On, nothing()))
			if err != api.OK {
				continue
			}
			for i, key := range was.Keys {
				if slices.ContainsFunc(h.Sets, func(s reduce.Set) bool { return s.Key == key }) {
					continue
				}
				v, err := value.Get(next, []api.Step{{IsKey: true, Key: key}})
				if kept++; tell(v) != tell(was.Items[i]) || err != api.OK {
					t.Fatalf("P16.2: Step(%s; %s): what is at %q is %s, want it to stay", tellProgram(p), tell(was), key, tell(v))
				}
			}
			for _, s := range h.Sets {
				if !slices.Contains(next.Keys, s.Key) {
					t.Fatalf("P16.2: Step(%s; %s): there is no %q", tellProgram(p), tell(was), s.Key)
				}
			}
		}
	}
	if kept < 3000 {
		t.Errorf("only %d keys were to stay", kept)
	}
}
