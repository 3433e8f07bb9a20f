// Package float is layer 1: see shared/doc/01-float.md.
package float

import (
	"math"

	"fanlight/api"
)

// The classes of numbers, in the chapter's order: each one's place is what Class answers.
const (
	plusZero = iota
	minusZero
	subnormal
	normal
	infinite
	notANumber
)

const (
	signBit      = 1 << 63
	exponentBits = 0x7ff << 52
	fractionBits = 1<<52 - 1

	theOneNaN = 0x7ff8000000000000
	lastPlace = 1<<64 - 1
)

// wholeBound is as far as every whole number is a float64 of its own.
const wholeBound = 1 << 53

// Canon answers b, or the one NaN for any NaN.
func Canon(b uint64) uint64 {
	if Class(b) == notANumber {
		return theOneNaN
	}
	return b
}

// Class answers which kind of number b is: 0 plus zero, 1 minus zero, 2 subnormal, 3 normal, 4 infinite, 5 a NaN.
func Class(b uint64) int {
	exponent, fraction := b&exponentBits, b&fractionBits
	switch {
	case exponent == exponentBits && fraction != 0:
		return notANumber
	case exponent == exponentBits:
		return infinite
	case exponent != 0:
		return normal
	case fraction != 0:
		return subnormal
	case b == signBit:
		return minusZero
	}
	return plusZero
}

// Order answers where b stands among all numbers: minus infinity first, a NaN last.
func Order(b uint64) uint64 {
	switch {
	case Class(b) == notANumber:
		return lastPlace
	case b&signBit != 0:
		// Of two below zero the one with the greater magnitude comes first.
		return ^b
	}
	return b | signBit
}

// Add answers the sum.
func Add(a uint64, b uint64) uint64 {
	return reckon(func() float64 { return number(a) + number(b) })
}

// Sub answers the difference.
func Sub(a uint64, b uint64) uint64 {
	return reckon(func() float64 { return number(a) - number(b) })
}

// Mul answers the product.
func Mul(a uint64, b uint64) uint64 {
	return reckon(func() float64 { return number(a) * number(b) })
}

// Div answers the quotient.
func Div(a uint64, b uint64) uint64 {
	return reckon(func() float64 { return number(a) / number(b) })
}

// Floor answers the greatest whole number that is not above b.
func Floor(b uint64) uint64 {
	return reckon(func() float64 { return math.Floor(number(b)) })
}

// Of answers n as a number; ErrRange beyond 2^53 either way.
func Of(n int) (uint64, api.Errno) {
	if n < -wholeBound || n > wholeBound {
		return 0, api.ErrRange
	}
	return math.Float64bits(float64(n)), api.OK
}

// Int answers b as a whole number; ErrWhole if it is none, ErrRange beyond 2^53 either way.
func Int(b uint64) (int, api.Errno) {
	if Class(b) >= infinite || Floor(b) != b {
		return 0, api.ErrWhole
	}
	n := number(b)
	if n < -wholeBound || n > wholeBound {
		return 0, api.ErrRange
	}
	return int(n), api.OK
}

// reckon is the one way out of float64: which NaN a machine makes hangs on the machine, so none leaves but by Canon.
func reckon(what func() float64) uint64 {
	return Canon(math.Float64bits(what()))
}

func number(b uint64) float64 {
	return math.Float64frombits(b)
}
