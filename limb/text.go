package limb

import (
	"strconv"

	"lorgnette/api"
)

// Text writes a number.
func Text(a []uint32) string {
	l := Norm(a)
	if len(l) == 0 {
		return "0"
	}
	highest := len(l) - 1
	text := strconv.AppendUint(nil, uint64(l[highest]), 10)
	for i := range highest {
		// The base on top makes ten digits of each limb; without the first one, its noughts ahead are there.
		padded := strconv.FormatUint(uint64(l[highest-1-i])+base, 10)
		text = append(text, padded[1:]...)
	}
	return string(text)
}

// Digits counts a number's digits.
func Digits(a []uint32) int {
	l := Norm(a)
	if len(l) == 0 {
		return 0
	}
	highest := len(l) - 1
	return limbDigits*highest + len(strconv.FormatUint(uint64(l[highest]), 10))
}

// Parse reads digits.
func Parse(s string) ([]uint32, api.Errno) {
	if !isDigits(s) {
		return nil, api.ErrForm
	}
	l := make([]uint32, 0, len(s)/limbDigits+1)
	for end := len(s); end > 0; end -= limbDigits {
		l = append(l, limbOf(s[max(0, end-limbDigits):end]))
	}
	return trim(l), api.OK
}

// isDigits tells whether s has digits alone, and one at least.
func isDigits(s string) bool {
	for i := range len(s) {
		if s[i] < '0' || s[i] > '9' {
			return false
		}
	}
	return s != ""
}

// limbOf is the limb that at most 9 digits write.
func limbOf(digits string) uint32 {
	limb := uint32(0)
	for i := range len(digits) {
		limb = 10*limb + uint32(digits[i]-'0')
	}
	return limb
}
