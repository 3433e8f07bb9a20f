package eval_test

import (
	"math"
	"math/rand"

	"fanlight/api"
	"fanlight/expr"
)

// kindAny asks for an expression of whatever kind.
const kindAny = -1

// someState is mostly a record in which there is, at the key of each kind's letter, a value of that kind.
func someState(r *rand.Rand) api.Value {
	s := record("b l n r t z")
	for _, kind := range []int{kindTruth, kindList, kindNumber, kindRecord, kindText, r.Intn(6)} {
		s.Items = append(s.Items, someValue(r, kind, 3))
	}
	if r.Intn(20) == 0 {
		s = s.Items[r.Intn(6)]
	}
	if !slowFits(s) {
		return someState(r)
	}
	return s
}

// someItem is one of those that a State has.
func someItem(r *rand.Rand) api.Value {
	if s := someState(r); len(s.Items) > 0 {
		return s.Items[r.Intn(len(s.Items))]
	}
	return nothing()
}

// keyOfKind is the key by which someState has a value of the kind.
func keyOfKind(kind int) string {
	return string("zbntlr"[kind])
}

func someValue(r *rand.Rand, kind int, depth int) api.Value {
	switch kind {
	case kindTruth:
		return truth(r.Intn(2) == 0)
	case kindNumber:
		return bits(someBits(r))
	case kindText:
		return text(someText(r))
	case kindList:
		return someList(r, depth)
	case kindRecord:
		v := record("")
		for _, key := range []string{"b", "k", "n", "t", "zz"} {
			if depth > 0 && r.Intn(2) == 0 {
				v.Keys = append(v.Keys, key)
				v.Items = append(v.Items, someValue(r, r.Intn(6), depth-1))
			}
		}
		if r.Intn(10) == 0 {
			return wideRecord(30 + r.Intn(3))
		}
		return v
	}
	return nothing()
}

// someList is mostly of one kind, so that what goes through it may come to its end.
func someList(r *rand.Rand, depth int) api.Value {
	if r.Intn(10) == 0 {
		return numbers(30 + r.Intn(3))
	}
	if r.Intn(20) == 0 {
		return deep(5+r.Intn(2), nothing())
	}
	l := list()
	kind := r.Intn(6)
	for range r.Intn(5) {
		if r.Intn(20) == 0 {
			kind = r.Intn(6)
		}
		if depth > 0 {
			l.Items = append(l.Items, someValue(r, kind, depth-1))
		}
	}
	return l
}

func someBits(r *rand.Rand) uint64 {
	switch r.Intn(6) {
	case 0:
		all := []uint64{0, minusZero, 1, minusZero | 1, plusInf, minusInf, oneNaN, math.Float64bits(1 << 53), math.Float64bits(0.5)}
		return all[r.Intn(len(all))]
	case 1:
		return math.Float64bits(float64(r.Intn(2000000)-1000000) / 4)
	case 2:
		return math.Float64bits(r.NormFloat64())
	}
	return math.Float64bits(float64(r.Intn(4)))
}

func someText(r *rand.Rand) string {
	return repeat("\x00b\xff"[r.Intn(3):][:1], []int{0, 1, 2, 3, 60, 64, 65, 128}[r.Intn(8)])
}

func someExpr(r *rand.Rand) expr.Expr {
	room := 1 + r.Intn(api.MaxExpr)
	return someOf(r, r.Intn(7)-1, 1, &room)
}

// someOf is an expression that mostly tells a value of the kind. It takes no more parts than room has.
func someOf(r *rand.Rand, kind int, depth int, room *int) expr.Expr {
	*room--
	if r.Intn(50) == 0 {
		kind = r.Intn(6)
	}
	if kind == kindAny {
		kind = r.Intn(6)
	}
	if depth == api.MaxDepth || *room < 4 {
		return someLeaf(r, kind)
	}
	if depth == api.MaxDepth-1 || r.Intn(4) == 0 {
		*room--
		from := []expr.Expr{state(), event()}[r.Intn(2)]
		return get(keyOfKind(kind), from)
	}
	n := someOp(r, kind)
	e := expr.Expr{Op: n}
	if n == opWith {
		e.Text = []string{"a", "b", "n", "zz", "zzz", "k31"}[r.Intn(6)]
	}
	if n == opGet {
		e.Text = keyOfKind(kind)
	}
	kinds := someKinds(r, n, kind)
	*room -= len(kinds)
	for _, of := range kinds {
		*room++
		e.Args = append(e.Args, someOf(r, of, depth+1, room))
	}
	return e
}

func someLeaf(r *rand.Rand, kind int) expr.Expr {
	if r.Intn(5) == 0 {
		return []expr.Expr{state(), event(), item(), item(), item()}[r.Intn(5)]
	}
	switch kind {
	case kindTruth:
		return []expr.Expr{yes(), no()}[r.Intn(2)]
	case kindNumber:
		return expr.Expr{Op: opNumber, Bits: someBits(r)}
	case kindText:
		return str(someText(r))
	case kindList:
		return op(opList)
	case kindRecord:
		return []expr.Expr{state(), event(), item()}[r.Intn(3)]
	}
	return op(opNothing)
}

// someOp is an op that tells a value of the kind.
func someOp(r *rand.Rand, kind int) int {
	ofAny := []int{opIf, opGet, opAt, opFind}
	own := [][]int{
		{opIf},
		{opSame, opLess, opAnd, opOr, opNot},
		{opLen, opAdd, opSub, opMul, opDiv, opFloor},
		{opJoin, opJoin, opDigits},
		{opList, opPush, opPush, opMap, opMap, opFilter},
		{opWith, opWith},
	}[kind]
	if r.Intn(4) == 0 {
		return ofAny[r.Intn(len(ofAny))]
	}
	return own[r.Intn(len(own))]
}

// someKinds are the kinds that an op asks of its Args, so that it mostly tells one of that kind.
func someKinds(r *rand.Rand, n int, kind int) []int {
	switch n {
	case opGet:
		return []int{kindRecord}
	case opAt:
		return []int{kindList, kindNumber}
	case opLen:
		return []int{kindText + r.Intn(3)}
	case opAdd, opSub, opMul, opDiv:
		return []int{kindNumber, kindNumber}
	case opFloor, opDigits:
		return []int{kindNumber}
	case opSame:
		return []int{kindAny, kindAny}
	case opLess:
		of := r.Intn(6)
		return []int{of, of}
	case opAnd, opOr:
		return []int{kindTruth, kindTruth}
	case opNot:
		return []int{kindTruth}
	case opIf:
		return []int{kindTruth, kind, kind}
	case opJoin:
		return []int{kindText, kindText}
	case opList:
		return []int{kindAny, kindAny, kindAny, kindAny, kindAny, kindAny, kindAny, kindAny}[:r.Intn(5)]
	case opPush:
		return []int{kindList, kindAny}
	case opWith:
		return []int{kindRecord, kindAny}
	case opMap:
		return []int{kindList, kindAny}
	}
	return []int{kindList, kindTruth}
}
