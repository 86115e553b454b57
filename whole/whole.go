// Package whole reckons with integers of 64 bits and never wraps round by itself: see DOC.md, chapter 1.
package whole

import (
	"math"
	"math/bits"
	"strconv"

	"stencil/api"
)

// Add tells a + b, or ErrWholeOver.
func Add(a int, b int) (int, api.Errno) {
	sum := a + b
	// A sum wraps round just if it has the sign of neither part.
	if (a^sum)&(b^sum) < 0 {
		return 0, api.ErrWholeOver
	}
	return sum, api.OK
}

// Sub tells a - b, or ErrWholeOver.
func Sub(a int, b int) (int, api.Errno) {
	difference := a - b
	// It wraps round just if a and b differ in sign and the difference has not a's.
	if (a^b)&(a^difference) < 0 {
		return 0, api.ErrWholeOver
	}
	return difference, api.OK
}

// Mul tells a times b, or ErrWholeOver.
func Mul(a int, b int) (int, api.Errno) {
	high, low := bits.Mul64(size(a), size(b))
	if high != 0 {
		return 0, api.ErrWholeOver
	}
	return withSign(low, (a < 0) != (b < 0))
}

// Div tells a / b cut towards 0, ErrWholeZero or ErrWholeOver.
func Div(a int, b int) (int, api.Errno) {
	if b == 0 {
		return 0, api.ErrWholeZero
	}
	if a == math.MinInt64 && b == -1 {
		return 0, api.ErrWholeOver
	}
	return a / b, api.OK
}

// Mod tells what Div leaves over, or ErrWholeZero.
func Mod(a int, b int) (int, api.Errno) {
	if b == 0 {
		return 0, api.ErrWholeZero
	}
	return a % b, api.OK
}

// Neg tells -a, or ErrWholeOver.
func Neg(a int) (int, api.Errno) {
	if a == math.MinInt64 {
		return 0, api.ErrWholeOver
	}
	return -a, api.OK
}

// Shl tells a times 2^k, ErrWholeShift or ErrWholeOver.
func Shl(a int, k int) (int, api.Errno) {
	if !isShift(k) {
		return 0, api.ErrWholeShift
	}
	shifted := a << k
	// Shifting back fills up with the sign: it makes a again just if no bit of worth was lost.
	if shifted>>k != a {
		return 0, api.ErrWholeOver
	}
	return shifted, api.OK
}

// Shr tells a / 2^k rounded down, or ErrWholeShift.
func Shr(a int, k int) (int, api.Errno) {
	if !isShift(k) {
		return 0, api.ErrWholeShift
	}
	return a >> k, api.OK
}

// To tells what an integer kind of so many bits makes of a, or ErrWholeBits.
func To(a int, bits int, signed bool) (int, api.Errno) {
	switch {
	case bits == 8 && signed:
		return int(int8(a)), api.OK
	case bits == 8:
		return int(uint8(a)), api.OK
	case bits == 16 && signed:
		return int(int16(a)), api.OK
	case bits == 16:
		return int(uint16(a)), api.OK
	case bits == 32 && signed:
		return int(int32(a)), api.OK
	case bits == 32:
		return int(uint32(a)), api.OK
	}
	return 0, api.ErrWholeBits
}

// Text tells a's digits.
func Text(a int) string {
	return strconv.Itoa(a)
}

// Parse tells the number that s is the text of, ErrWholeForm or ErrWholeOver.
func Parse(s string) (int, api.Errno) {
	below := len(s) > 0 && s[0] == '-'
	digits := s
	if below {
		digits = s[1:]
	}
	if s != "0" && !isPositive(digits) {
		return 0, api.ErrWholeForm
	}
	// No number of 20 digits is in the range, and each of 19 has room in a word.
	if len(digits) > 19 {
		return 0, api.ErrWholeOver
	}
	word := uint64(0)
	for i := range len(digits) {
		word = word*10 + uint64(digits[i]-'0')
	}
	return withSign(word, below)
}

// size tells how far a is from 0; of -2^63 too, which has no opposite among the ints.
func size(a int) uint64 {
	if a < 0 {
		return -uint64(a)
	}
	return uint64(a)
}

// withSign tells the number that is so far from 0, below it or not, or ErrWholeOver.
func withSign(size uint64, below bool) (int, api.Errno) {
	if below && size <= 1<<63 {
		return int(-size), api.OK
	}
	if !below && size <= math.MaxInt64 {
		return int(size), api.OK
	}
	return 0, api.ErrWholeOver
}

// isShift tells whether one may shift by k.
func isShift(k int) bool {
	return 0 <= k && k <= 63
}

// isPositive tells whether s is digits of which the first is not 0.
func isPositive(s string) bool {
	if len(s) == 0 || s[0] == '0' {
		return false
	}
	for i := range len(s) {
		if s[i] < '0' || s[i] > '9' {
			return false
		}
	}
	return true
}
