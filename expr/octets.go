package expr

import (
	"fanlight/api"
	"fanlight/float"
)

const numberOctets = 8

// Encode answers e's octets.
func Encode(e Expr) ([]byte, api.Errno) {
	if err := Check(e); err != api.OK {
		return nil, err
	}
	var b []byte
	for _, part := range parts(e) {
		b = appendPart(b, part)
	}
	return b, api.OK
}

// Decode answers the expression whose octets b is, with nothing left behind them.
func Decode(b []byte) (Expr, api.Errno) {
	r := reader{rest: b}
	return caught(r.whole)
}

// appendPart takes a part that may be: its length or count then fits into its one octet. Its Args follow as parts of their own.
func appendPart(b []byte, part Expr) []byte {
	b = append(b, byte(part.Op))
	switch part.Op {
	case opNumber:
		return appendBits(b, part.Bits)
	case opText, opGet, opWith:
		return append(append(b, byte(len(part.Text))), part.Text...)
	case opList:
		return append(b, byte(len(part.Args)))
	}
	return b
}

func appendBits(b []byte, bits uint64) []byte {
	for i := range numberOctets {
		b = append(b, byte(bits>>(8*(numberOctets-1-i))))
	}
	return b
}

// reader stands in octets that may be no expression; each of its methods panics, with the error's number, where they are none.
type reader struct {
	rest  []byte
	parts int
}

func (r *reader) whole() Expr {
	e := r.part(1)
	switch {
	case len(r.rest) > 0:
		panic(api.ErrTail)
	case r.parts > api.MaxExpr:
		panic(api.ErrCount)
	}
	return e
}

// part looks at the depth ahead of the octets, so that it never calls itself beyond the last level.
func (r *reader) part(depth int) Expr {
	if depth > api.MaxDepth {
		panic(api.ErrDeep)
	}
	r.parts++
	e := Expr{Op: r.op()}
	switch e.Op {
	case opNumber:
		e.Bits = r.bits()
	case opText, opGet, opWith:
		e.Text = r.text(textBounds(e.Op))
	}
	for range r.argCount(e.Op) {
		e.Args = r.keep(e.Args, r.part(depth+1))
	}
	return e
}

func (r *reader) op() int {
	op := r.octet()
	if !isOp(op) {
		panic(api.ErrKind)
	}
	return op
}

func (r *reader) octet() int {
	return int(r.next(1)[0])
}

// next answers a piece of what was handed in: whoever keeps anything of it copies it.
func (r *reader) next(n int) []byte {
	if len(r.rest) < n {
		panic(api.ErrShort)
	}
	piece := r.rest[:n]
	r.rest = r.rest[n:]
	return piece
}

func (r *reader) bits() uint64 {
	var bits uint64
	for _, octet := range r.next(numberOctets) {
		bits = bits<<8 | uint64(octet)
	}
	if float.Canon(bits) != bits {
		panic(api.ErrArg)
	}
	return bits
}

// text looks at the length as soon as it is read: its octet is ahead of those that may be missing.
func (r *reader) text(least, most int) string {
	n := r.octet()
	if !isWithin(n, least, most) {
		panic(api.ErrLong)
	}
	return string(r.next(n))
}

// argCount reads an octet of a list alone: every other op has one number of Args.
func (r *reader) argCount(op int) int {
	least, most := argBounds(op)
	if least == most {
		return least
	}
	n := r.octet()
	if n > most {
		panic(api.ErrCount)
	}
	return n
}

// keep drops Args once there are too many parts: the octets are still read to their end, for an error there goes ahead, but no expression will be answered, and a part takes far more memory than its octet.
func (r *reader) keep(args []Expr, arg Expr) []Expr {
	if r.parts > api.MaxExpr {
		return nil
	}
	return append(args, arg)
}
