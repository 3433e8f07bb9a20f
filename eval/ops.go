package eval

import (
	"slices"

	"fanlight/api"
	"fanlight/expr"
	"fanlight/float"
	"fanlight/value"
)

// The ops, numbered as in layer 14.
const (
	opNothing = iota
	opFalse
	opTrue
	opNumber
	opText
	opState
	opEvent
	opItem
	opGet
	opAt
	opLen
	opAdd
	opSub
	opMul
	opDiv
	opFloor
	opSame
	opLess
	opAnd
	opOr
	opNot
	opIf
	opJoin
	opList
	opPush
	opWith
	opDigits
	opMap
	opFilter
	opFind
)

// mostDigits: 2^53, the greatest that float.Int takes, has 16; and a sign.
const mostDigits = 17

// reckon answers what e, which may be, is with the scope as it stands. It panics, with the error's number, where e is none.
func (m *machine) reckon(e expr.Expr) api.Value {
	m.burn()
	switch e.Op {
	case opNothing:
		return api.Value{Kind: nothing}
	case opFalse, opTrue:
		return truthOf(e.Op == opTrue)
	case opNumber:
		return numberOf(e.Bits)
	case opText:
		return textOf(e.Text)
	case opState:
		return m.State
	case opEvent:
		return m.Event
	case opItem:
		return m.Item
	case opAnd, opOr:
		return m.andOr(e)
	case opIf:
		return m.choose(e)
	case opMap, opFilter, opFind:
		return m.goThrough(e)
	}
	return apply(e, m.reckonAll(e.Args))
}

func (m *machine) reckonAll(args []expr.Expr) []api.Value {
	var all []api.Value
	for _, arg := range args {
		all = append(all, m.reckon(arg))
	}
	return all
}

// andOr asks the second Arg only where the first leaves it open.
func (m *machine) andOr(e expr.Expr) api.Value {
	first := want(m.reckon(e.Args[0]), truth)
	if decides := e.Op == opOr; isTrue(first) == decides {
		return first
	}
	return want(m.reckon(e.Args[1]), truth)
}

// choose leaves the Arg that is not meant alone.
func (m *machine) choose(e expr.Expr) api.Value {
	if isTrue(want(m.reckon(e.Args[0]), truth)) {
		return m.reckon(e.Args[1])
	}
	return m.reckon(e.Args[2])
}

func (m *machine) goThrough(e expr.Expr) api.Value {
	items, f := want(m.reckon(e.Args[0]), list).Items, e.Args[1]
	switch e.Op {
	case opMap:
		return m.mapped(items, f)
	case opFilter:
		return m.filtered(items, f)
	}
	return m.found(items, f)
}

func (m *machine) mapped(items []api.Value, f expr.Expr) api.Value {
	var made []api.Value
	m.each(items, f, func(_, told api.Value) bool {
		made = append(made, told)
		return true
	})
	return fitting(listOf(made))
}

func (m *machine) filtered(items []api.Value, f expr.Expr) api.Value {
	var kept []api.Value
	m.each(items, f, func(item, told api.Value) bool {
		if isTrue(want(told, truth)) {
			kept = append(kept, item)
		}
		return true
	})
	return listOf(kept)
}

func (m *machine) found(items []api.Value, f expr.Expr) api.Value {
	var first api.Value
	there := false
	m.each(items, f, func(item, told api.Value) bool {
		first, there = item, isTrue(want(told, truth))
		return !there
	})
	if !there {
		panic(api.ErrNone)
	}
	return first
}

// apply answers what an op makes of its Args, all of which are reckoned.
func apply(e expr.Expr, args []api.Value) api.Value {
	switch e.Op {
	case opGet:
		return keyed(args[0], e.Text)
	case opAt:
		return placed(args[0], args[1])
	case opLen:
		return length(args[0])
	case opAdd:
		return numberOf(float.Add(bitsOfTwo(args)))
	case opSub:
		return numberOf(float.Sub(bitsOfTwo(args)))
	case opMul:
		return numberOf(float.Mul(bitsOfTwo(args)))
	case opDiv:
		return numberOf(float.Div(bitsOfTwo(args)))
	case opFloor:
		return numberOf(float.Floor(want(args[0], number).Bits))
	case opSame:
		return truthOf(value.Same(args[0], args[1]))
	case opLess:
		return less(args[0], args[1])
	case opNot:
		return truthOf(!isTrue(want(args[0], truth)))
	case opJoin:
		return fitting(textOf(want(args[0], text).Text + want(args[1], text).Text))
	case opList:
		return fitting(listOf(args))
	case opPush:
		return pushed(args[0], args[1])
	case opWith:
		return withKey(args[0], e.Text, args[1])
	case opDigits:
		return textOf(digits(wholeOf(args[0], api.ErrWhole)))
	}
	// expr.Check has let no other op pass.
	panic(api.ErrState)
}

func keyed(v api.Value, key string) api.Value {
	at, there := slices.BinarySearch(want(v, record).Keys, key)
	if !there {
		panic(api.ErrNone)
	}
	return v.Items[at]
}

func placed(v api.Value, place api.Value) api.Value {
	items := want(v, list).Items
	at := wholeOf(place, api.ErrIndex)
	if at < 0 || at >= len(items) {
		panic(api.ErrIndex)
	}
	return items[at]
}

// length counts a text's octets, else items: what v has none of counts nothing.
func length(v api.Value) api.Value {
	want(v, text, list, record)
	bits, _ := float.Of(len(v.Text) + len(v.Items))
	return numberOf(bits)
}

func bitsOfTwo(args []api.Value) (uint64, uint64) {
	return want(args[0], number).Bits, want(args[1], number).Bits
}

func less(a, b api.Value) api.Value {
	order, _ := value.Compare(a, want(b, a.Kind))
	return truthOf(order < 0)
}

func pushed(v api.Value, x api.Value) api.Value {
	return fitting(listOf(slices.Concat(want(v, list).Items, []api.Value{x})))
}

func withKey(v api.Value, key string, x api.Value) api.Value {
	keys, items := slices.Clone(want(v, record).Keys), slices.Clone(v.Items)
	at, there := slices.BinarySearch(keys, key)
	if there {
		items[at] = x
	} else {
		keys, items = slices.Insert(keys, at, key), slices.Insert(items, at, x)
	}
	return fitting(api.Value{Kind: record, Keys: keys, Items: items})
}

// wholeOf answers a number as a whole one, or panics with fault, whatever keeps it from being one.
func wholeOf(v api.Value, fault api.Errno) int {
	n, err := float.Int(want(v, number).Bits)
	if err != api.OK {
		panic(fault)
	}
	return n
}

// digits writes n, which is within what float.Int takes, in tens.
func digits(n int) string {
	var octets [mostDigits]byte
	at := len(octets)
	for rest := max(n, -n); rest > 0 || at == len(octets); rest /= 10 {
		at--
		octets[at] = byte('0' + rest%10)
	}
	if n < 0 {
		at--
		octets[at] = '-'
	}
	return string(octets[at:])
}
