package pacer

import (
	"math"
	"math/bits"
)

// Scale is a times b, divided by c (P2).
func Scale(a int, b int, c int) (int, Errno) {
	if a < 0 || b < 0 || c < 1 {
		return 0, ErrArg
	}
	high, low := bits.Mul64(uint64(a), uint64(b))
	if high >= uint64(c) { // Div64 panics where the quotient does not fit
		return 0, ErrBig
	}
	quotient, _ := bits.Div64(high, low, uint64(c))
	if quotient > math.MaxInt {
		return 0, ErrBig
	}
	return int(quotient), OK
}

// Accrue is credit behind some time (P3).
func Accrue(credit int, rate int, most int, time int) (int, Errno) {
	if credit < 0 || rate < 0 || most < 0 || time < 0 || credit > most {
		return 0, ErrArg
	}
	high, low := bits.Mul64(uint64(rate), uint64(time))
	// Held against the room that is left, because the sum itself may not fit.
	if high > 0 || low > uint64(most-credit) {
		return most, OK
	}
	return credit + int(low), OK
}

// Until is the time till there is enough credit (P3).
func Until(credit int, rate int, need int) (int, Errno) {
	if credit < 0 || rate < 0 || need < 0 {
		return 0, ErrArg
	}
	if credit >= need {
		return 0, OK
	}
	if rate == 0 {
		return 0, ErrNever
	}
	// Rounded up in this way, because gap + rate may not fit.
	gap := need - credit
	return (gap-1)/rate + 1, OK
}
