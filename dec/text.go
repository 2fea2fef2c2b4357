package dec

import (
	"strconv"
	"strings"

	"lorgnette/api"
	"lorgnette/limb"
)

// The least and the greatest heads of numbers that are written without a power: the least one holds for those with a point, the greatest one for those without.
const (
	leastHead    = -7
	greatestHead = 20
)

// Text writes a number.
func Text(d api.Dec) (string, api.Errno) {
	plain, err := Norm(d)
	if err != api.OK {
		return "", err
	}
	text := withoutSign(limb.Text(plain.Limbs), plain.Exp)
	if plain.Neg {
		text = "-" + text
	}
	return text, api.OK
}

// withoutSign writes the number that digits, times ten to the exp, are.
func withoutSign(digits string, exp int) string {
	head := exp + len(digits) - 1
	switch {
	case exp >= 0 && head <= greatestHead:
		return digits + strings.Repeat("0", exp)
	case exp < 0 && head >= leastHead:
		return withPoint(digits, -exp)
	}
	return withPower(digits, head)
}

// withPoint writes digits, so many of them behind the point, and one at least ahead of it.
func withPoint(digits string, behind int) string {
	missing := max(0, behind+1-len(digits))
	padded := strings.Repeat("0", missing) + digits
	at := len(padded) - behind
	return padded[:at] + "." + padded[at:]
}

// withPower writes digits, of which the first one is worth ten to the head.
func withPower(digits string, head int) string {
	text := digits[:1]
	if len(digits) > 1 {
		text += "." + digits[1:]
	}
	return text + "e" + strconv.Itoa(head)
}
