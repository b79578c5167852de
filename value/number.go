package value

import (
	"math"
	"math/bits"

	"jointer/api"
)

// Add returns the sum, or ErrOverflow.
func Add(a, b int64) (int64, api.Errno) {
	sum := a + b
	if (a^sum)&(b^sum) < 0 { // a sum that has wrapped around has the sign of neither operand
		return 0, api.ErrOverflow
	}
	return sum, api.OK
}

// Sub returns the difference, or ErrOverflow.
func Sub(a, b int64) (int64, api.Errno) {
	difference := a - b
	if (a^b)&(a^difference) < 0 { // with one sign it cannot wrap around, with two it has that of a
		return 0, api.ErrOverflow
	}
	return difference, api.OK
}

// Mul returns the product, or ErrOverflow.
func Mul(a, b int64) (int64, api.Errno) {
	high, low := bits.Mul64(magnitude(a), magnitude(b))
	negative := (a < 0) != (b < 0)
	most := uint64(math.MaxInt64)
	if negative {
		most++ // there is one negative integer more
	}
	if high != 0 || low > most {
		return 0, api.ErrOverflow
	}
	if negative {
		low = -low
	}
	return int64(low), api.OK
}

// magnitude returns the absolute value, also of the least integer, which has none among the signed ones.
func magnitude(n int64) uint64 {
	if n < 0 {
		return -uint64(n)
	}
	return uint64(n)
}

// Div returns the quotient, rounded towards zero, or an error.
func Div(a, b int64) (int64, api.Errno) {
	if b == 0 {
		return 0, api.ErrDivide
	}
	if a == math.MinInt64 && b == -1 {
		return 0, api.ErrOverflow
	}
	return a / b, api.OK
}

// Mod returns the remainder with the sign of a, or ErrDivide.
func Mod(a, b int64) (int64, api.Errno) {
	if b == 0 {
		return 0, api.ErrDivide
	}
	return a % b, api.OK
}

// Plus returns the sum of two numbers from 0 to Cap.
func Plus(a, b int) int {
	a, b = within(a), within(b)
	if a > api.Cap-b { // the sum itself may be outside of 64 bits
		return api.Cap
	}
	return a + b
}

// Times returns the product of two numbers from 0 to Cap.
func Times(a, b int) int {
	high, low := bits.Mul64(uint64(within(a)), uint64(within(b)))
	if high != 0 || low > api.Cap {
		return api.Cap
	}
	return int(low)
}

// within returns the number from 0 to Cap as which n counts.
func within(n int) int {
	return min(max(n, 0), api.Cap)
}
