package reduce_test

import (
	"math/rand"

	"fanlight/api"
	"fanlight/expr"
	"fanlight/reduce"
)

// The keys of states by chance: each kind's letter, where mostly a value of that kind is.
const letters = "zbntlr"

// names are those that handlers and events by chance have.
func names() []string {
	return []string{"up", "down", "stop", "a", repeat("n", 16)}
}

// someState is a record that has a value of each kind at the kind's letter, and at times so many others that hardly another key fits.
func someState(r *rand.Rand) api.Value {
	s := record("b l n r t z")
	for _, kind := range []int{kindTruth, kindList, kindNumber, kindRecord, kindText, kindNothing} {
		s.Items = append(s.Items, someValue(r, kind, 3))
	}
	if r.Intn(6) == 0 {
		wide := wideRecord(24 + r.Intn(3))
		s.Keys = append([]string{"b"}, append(wide.Keys, s.Keys[1:]...)...)
		s.Items = append([]api.Value{s.Items[0]}, append(wide.Items, s.Items[1:]...)...)
	}
	if reduce.Check(reduce.Program{Init: s}) != api.OK {
		return someState(r)
	}
	return s
}

func someValue(r *rand.Rand, kind int, depth int) api.Value {
	switch kind {
	case kindTruth:
		return truth(r.Intn(2) == 0)
	case kindNumber:
		return number(float64(r.Intn(9)-2) / 2)
	case kindText:
		return text(repeat("x", []int{0, 1, 2, 64, 65, 128}[r.Intn(6)]))
	case kindList:
		return someList(r, depth)
	case kindRecord:
		v := record("")
		for i, key := range []string{"b", "l", "n", "t", "z"} {
			if depth > 0 && r.Intn(3) > 0 {
				v.Keys = append(v.Keys, key)
				v.Items = append(v.Items, someValue(r, []int{kindTruth, kindList, kindNumber, kindText, kindNothing}[i], depth-1))
			}
		}
		return v
	}
	return nothing()
}

func someList(r *rand.Rand, depth int) api.Value {
	switch r.Intn(12) {
	case 0:
		return numbers(30 + r.Intn(3))
	case 1:
		return deep(5+r.Intn(3), nothing())
	case 2:
		return ofParts(150 + r.Intn(200))
	}
	l := list()
	kind := r.Intn(6)
	for range r.Intn(5) {
		if depth > 0 {
			l.Items = append(l.Items, someValue(r, kind, depth-1))
		}
	}
	return l
}

// someOf is an expression that mostly tells a value of the kind, at most so deep.
func someOf(r *rand.Rand, kind int, depth int) expr.Expr {
	if r.Intn(60) == 0 {
		kind = r.Intn(6)
	}
	if depth < 2 {
		return someLeaf(r, kind)
	}
	next := func(kind int) expr.Expr { return someOf(r, kind, depth-1) }
	switch r.Intn(5) {
	case 0:
		return someLeaf(r, kind)
	case 1, 2:
		return get(letters[kind : kind+1])
	case 3:
		return op(opIf, next(kindTruth), next(kind), next(kind))
	}
	switch kind {
	case kindTruth:
		return []expr.Expr{op(opSame, next(r.Intn(6)), next(r.Intn(6))), op(opNot, next(kindTruth)), op(opOr, next(kindTruth), next(kindTruth)), op(opLess, next(kindNumber), next(kindNumber))}[r.Intn(4)]
	case kindNumber:
		return []expr.Expr{op(opAdd, next(kindNumber), next(kindNumber)), op(opLen, next(kindList))}[r.Intn(2)]
	case kindText:
		return []expr.Expr{op(opJoin, next(kindText), next(kindText)), op(opDigits, next(kindNumber))}[r.Intn(2)]
	case kindList:
		return []expr.Expr{op(opList, next(r.Intn(6)), next(r.Intn(6))), op(opPush, next(kindList), next(r.Intn(6))), op(opFilter, next(kindList), op(opSame, item(), next(kindNumber)))}[r.Intn(3)]
	case kindRecord:
		return expr.Expr{Op: opWith, Text: letters[r.Intn(6):][:1], Args: []expr.Expr{next(kindRecord), next(r.Intn(6))}}
	}
	return op(opNothing)
}

func someLeaf(r *rand.Rand, kind int) expr.Expr {
	if r.Intn(6) == 0 {
		return event()
	}
	switch kind {
	case kindTruth:
		return []expr.Expr{yes(), no()}[r.Intn(2)]
	case kindNumber:
		return num(float64(r.Intn(4)))
	case kindText:
		return str(repeat("y", r.Intn(3)))
	case kindList:
		return op(opList)
	case kindRecord:
		return state()
	}
	return []expr.Expr{op(opNothing), item()}[r.Intn(2)]
}

// someProgram mostly sets at each kind's letter a value of that kind.
func someProgram(r *rand.Rand) reduce.Program {
	p := reduce.Program{Init: someState(r)}
	for i, name := range names()[:4] {
		if r.Intn(8) == 0 {
			continue
		}
		h := reduce.Handler{On: name}
		for range r.Intn(5 - i/2) {
			kind := r.Intn(6)
			key := letters[kind : kind+1]
			if r.Intn(5) == 0 {
				key = []string{"A", "k005", "new", "zz", repeat("k", 16)}[r.Intn(5)]
			}
			h.Sets = append(h.Sets, set(key, someOf(r, kind, 3)))
		}
		for range r.Intn(4) {
			h.Emits = append(h.Emits, emit(someOf(r, kindTruth, 3), names()[r.Intn(5)], someOf(r, r.Intn(6), 3)))
		}
		p.Handlers = append(p.Handlers, h)
	}
	return p
}

func someEvents(r *rand.Rand) []api.Event {
	var l []api.Event
	for range r.Intn(8) {
		x := happening(names()[r.Intn(4)], someValue(r, r.Intn(6), 3))
		switch r.Intn(40) {
		case 0:
			x.Name = names()[4]
		case 1:
			x.Name = repeat("n", r.Intn(2)*17)
		case 2:
			all := faultyValues()
			x.Arg = all[r.Intn(len(all))].v
		}
		l = append(l, x)
	}
	return l
}

// spoilt is p with a fault or two, each of those that a program may have.
func spoilt(r *rand.Rand, p reduce.Program) reduce.Program {
	for range 1 + r.Intn(2) {
		bad := faultyExprs()[r.Intn(len(faultyExprs()))].e
		if len(p.Handlers) == 0 {
			p.Init = ofEachKind()[r.Intn(5)][0]
			return p
		}
		h := &p.Handlers[r.Intn(len(p.Handlers))]
		switch what := r.Intn(10); {
		case what == 0:
			p.Init = faultyValues()[r.Intn(len(faultyValues()))].v
		case what == 1:
			p.Init = ofEachKind()[r.Intn(5)][0]
		case what == 2:
			h.On = repeat("n", r.Intn(2)*17)
		case what == 3:
			h.On = p.Handlers[r.Intn(len(p.Handlers))].On
		case what == 4:
			h.Sets = append(h.Sets, manySets(9)...)
		case what == 5:
			h.Emits = append(h.Emits, manyEmits(9)...)
		case what == 6 && len(h.Sets) > 0:
			h.Sets[r.Intn(len(h.Sets))].Key = repeat("k", r.Intn(2)*17)
		case what == 7 && len(h.Sets) > 0:
			h.Sets[r.Intn(len(h.Sets))].Expr = bad
		case what == 8 && len(h.Emits) > 0:
			h.Emits[r.Intn(len(h.Emits))].When = bad
		case len(h.Emits) > 0:
			h.Emits[r.Intn(len(h.Emits))].Arg = bad
			h.Emits[r.Intn(len(h.Emits))].Name = repeat("n", r.Intn(2)*17)
		}
	}
	return p
}
