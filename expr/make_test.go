package expr_test

import (
	"math"
	"math/rand"
	"slices"
	"strconv"
	"strings"

	"fanlight/api"
	"fanlight/expr"
)

// The ops that the tests name; the others are told by their numbers.
const (
	opNumber = 3
	opText   = 4
	opState  = 5
	opItem   = 7
	opGet    = 8
	opAdd    = 11
	opNot    = 20
	opIf     = 21
	opList   = 23
	opWith   = 25
	opLast   = 29
)

const maxList = 8

const (
	minusZero = 1 << 63
	plusInf   = 0x7ff0000000000000
	minusInf  = 0xfff0000000000000
	oneNaN    = 0x7ff8000000000000
)

// argCounts are how many Args each op has, by its number, as the chapter tells them; of list, which has 0 to 8, -1.
func argCounts() []int {
	return []int{
		0, 0, 0, 0, 0, 0, 0, 0, // nothing to item
		1, 2, 1, // get, at, len
		2, 2, 2, 2, 1, // add, sub, mul, div, floor
		2, 2, 2, 2, 1, 3, // same, less, and, or, not, if
		2, -1, 2, 2, // join, list, push, with
		1, 2, 2, 2, // digits, map, filter, find
	}
}

// argsOf is how many Args an op has; of list, for which any of 0 to 8 will do, two.
func argsOf(op int) int {
	if n := argCounts()[op]; n >= 0 {
		return n
	}
	return 2
}

// strayOps are numbers near those of ops, far from them, and such as are those of ops when cut off.
func strayOps() []int {
	return []int{-1, opLast + 1, 31, 255, 256, 256 + opState, -256 + opState, 1<<32 + opState, math.MaxInt, math.MinInt, math.MinInt + opState}
}

func op(n int, args ...expr.Expr) expr.Expr {
	return expr.Expr{Op: n, Args: args}
}

func number(f float64) expr.Expr {
	return bits(math.Float64bits(f))
}

func bits(b uint64) expr.Expr {
	return expr.Expr{Op: opNumber, Bits: b}
}

func text(s string) expr.Expr {
	return expr.Expr{Op: opText, Text: s}
}

func get(key string, from expr.Expr) expr.Expr {
	return expr.Expr{Op: opGet, Text: key, Args: []expr.Expr{from}}
}

func with(key string, record, x expr.Expr) expr.Expr {
	return expr.Expr{Op: opWith, Text: key, Args: []expr.Expr{record, x}}
}

func list(args ...expr.Expr) expr.Expr {
	return op(opList, args...)
}

// leaf is a part without Args.
func leaf() expr.Expr {
	return op(opState)
}

// plain is an op with so many Args, and with a Text where it needs one.
func plain(n int, args int) expr.Expr {
	e := op(n)
	for range args {
		e.Args = append(e.Args, leaf())
	}
	if n == opGet || n == opWith {
		e.Text = "k"
	}
	return e
}

func repeat(s string, n int) string {
	return strings.Repeat(s, n)
}

// wide is a list of n leaves.
func wide(n int) expr.Expr {
	return plain(opList, n)
}

// deep is e within so many nots that it is the n-th of parts within each other.
func deep(n int, e expr.Expr) expr.Expr {
	for range n - 1 {
		e = op(opNot, e)
	}
	return e
}

// deepLast is e as deep as deep has it, but always the last of three Args, and the last part of all.
func deepLast(n int, e expr.Expr) expr.Expr {
	for range n - 1 {
		e = op(opIf, leaf(), text("ab"), e)
	}
	return e
}

// ofParts is a list of n parts, itself counted, 3 deep, with one Arg free for another: n is at most 1 + 7*9.
func ofParts(n int) expr.Expr {
	l := list()
	for n--; n > 0; {
		inner := min(n, 1+maxList)
		l.Args = append(l.Args, wide(inner-1))
		n -= inner
	}
	return l
}

// behindAll is e with x as its list's last Arg.
func behindAll(e expr.Expr, x expr.Expr) expr.Expr {
	e.Args = append(slices.Clone(e.Args), x)
	return e
}

// withinItself is an op whose Args are itself.
func withinItself(n int, args int) expr.Expr {
	e := plain(n, args)
	for i := range e.Args {
		e.Args[i] = e
	}
	return e
}

// endless tells whether e lies within itself.
func endless(e expr.Expr, depth int) bool {
	return depth > 30 || slices.ContainsFunc(e.Args, func(arg expr.Expr) bool { return endless(arg, depth+1) })
}

// clone is a copy by the tests' own hand.
func clone(e expr.Expr) expr.Expr {
	e.Args = slices.Clone(e.Args)
	for i := range e.Args {
		e.Args[i] = clone(e.Args[i])
	}
	return e
}

// tell writes e out, so that two expressions are one just if what is told is one; nil and empty Args are told alike.
func tell(e expr.Expr) string {
	var s strings.Builder
	s.WriteString("(" + strconv.Itoa(e.Op) + " " + strconv.FormatUint(e.Bits, 16) + " " + strconv.Quote(e.Text))
	for _, arg := range e.Args {
		s.WriteString(" " + tell(arg))
	}
	return s.String() + ")"
}

// isZero tells whether e is the zero expression, nil and empty Args being one.
func isZero(e expr.Expr) bool {
	return e.Op == 0 && e.Bits == 0 && e.Text == "" && len(e.Args) == 0
}

// may are expressions that may be, no two of them one: every op, every named edge from within.
func may() []expr.Expr {
	l := []expr.Expr{
		number(1), number(-1), number(0.5), bits(minusZero), bits(1), bits(minusZero | 1), bits(math.MaxUint64 >> 12), bits(plusInf), bits(minusInf), bits(oneNaN), bits(0x0102030405060708),
		text("a"), text("b"), text("ab"), text("ba"), text("\xff\x00"), text("é"), text(repeat("x", api.MaxText-1)), text(repeat("x", api.MaxText)), text(repeat("é", api.MaxText/2)),
		get("a", leaf()), get("\x00", leaf()), get(repeat("k", api.MaxName-1), leaf()), get(repeat("k", api.MaxName), leaf()), get(repeat("é", api.MaxName/2), leaf()), get("a", get("b", op(opItem))),
		with("a", leaf(), number(1)), with("\xff", number(1), leaf()), with(repeat("k", api.MaxName), text(""), list()),
		op(opAdd, leaf(), number(2)), op(opAdd, number(2), leaf()), op(opAdd, op(opAdd, leaf(), leaf()), leaf()), op(opAdd, leaf(), op(opAdd, leaf(), leaf())),
		op(opIf, op(2), leaf(), text("else")), op(27, get("l", leaf()), op(opIf, op(17, op(opItem), number(3)), op(opItem), op(0))),
		list(list(), list()), list(list(list())), list(text("a"), number(1), leaf()),
		deep(api.MaxDepth, text("down")), deep(api.MaxDepth, list()), deepLast(api.MaxDepth, number(0)), deepLast(api.MaxDepth, list()),
		ofParts(api.MaxExpr - 1), ofParts(api.MaxExpr), behindAll(ofParts(api.MaxExpr-api.MaxDepth+1), deep(api.MaxDepth-1, text("end"))),
	}
	for n := range opLast + 1 {
		l = append(l, plain(n, argsOf(n)))
	}
	for n := range maxList + 1 {
		if n != argsOf(opList) {
			l = append(l, wide(n))
		}
	}
	return l
}

// some are expressions that may be, from a fixed rule.
func some(n int) []expr.Expr {
	r := rand.New(rand.NewSource(14))
	var l []expr.Expr
	for len(l) < n {
		room := 1 + r.Intn(api.MaxExpr)
		l = append(l, someExpr(r, 1, &room))
	}
	return l
}

// someExpr takes no more parts than room has, so that the whole may be.
func someExpr(r *rand.Rand, depth int, room *int) expr.Expr {
	*room--
	e := expr.Expr{Op: r.Intn(opLast + 1)}
	args := argCounts()[e.Op]
	if args < 0 {
		args = r.Intn(maxList + 1)
	}
	if depth == api.MaxDepth || args > *room {
		e.Op, args = r.Intn(opGet), 0
	}
	*room -= args
	switch e.Op {
	case opNumber:
		e.Bits = someBits(r)
	case opText:
		e.Text = someText(r, r.Intn(api.MaxText+1))
	case opGet, opWith:
		e.Text = someText(r, 1+r.Intn(api.MaxName))
	}
	for range args {
		*room++
		e.Args = append(e.Args, someExpr(r, depth+1, room))
	}
	return e
}

func someBits(r *rand.Rand) uint64 {
	all := []uint64{0, minusZero, 1, minusZero | 1, plusInf, minusInf, oneNaN, math.Float64bits(r.NormFloat64())}
	return all[r.Intn(len(all))]
}

func someText(r *rand.Rand, n int) string {
	return repeat("\x00b\xff"[r.Intn(3):][:1], n)
}

// octetsOf writes e by the chapter's words alone, whether it may be or not.
func octetsOf(e expr.Expr) string {
	s := one(e.Op)
	switch e.Op {
	case opNumber:
		s += eight(e.Bits)
	case opText, opGet, opWith:
		s += one(len(e.Text)) + e.Text
	case opList:
		s += one(len(e.Args))
	}
	for _, arg := range e.Args {
		s += octetsOf(arg)
	}
	return s
}

func one(n int) string {
	return string([]byte{byte(n)})
}

func eight(b uint64) string {
	var l []byte
	for range 8 {
		l = append(l, byte(b))
		b >>= 8
	}
	slices.Reverse(l)
	return string(l)
}

// place is where a part stands: how deep, and how many octets are ahead of it.
type place struct {
	depth int
	ahead int
}

// places are those of all parts of e, which may be, in order.
func places(e expr.Expr) []place {
	return placesFrom(e, place{depth: 1})
}

func placesFrom(e expr.Expr, at place) []place {
	all := []place{at}
	bare := e
	bare.Args = nil
	next := place{depth: at.depth + 1, ahead: at.ahead + len(octetsOf(bare))}
	for _, arg := range e.Args {
		all = append(all, placesFrom(arg, next)...)
		next.ahead += len(octetsOf(arg))
	}
	return all
}
