package word

import (
	"math"
	"strings"
)

const (
	hexMark   = "0x"
	hexDigits = 8 // of a whole word
)

// digits are those to base 16, each at its own value; the first ten are those to base 10.
var digits = [16]byte{'0', '1', '2', '3', '4', '5', '6', '7', '8', '9', 'a', 'b', 'c', 'd', 'e', 'f'}

// Parse is a numeral's word.
func Parse(s string) (uint32, bool) {
	if hex, is := strings.CutPrefix(s, hexMark); is {
		return parseHex(hex)
	}
	return parseDecimal(s)
}

// Show is a word's numeral.
func Show(v uint32) string {
	text := []byte(hexMark)
	for at := range uint(hexDigits) {
		text = append(text, digits[v>>(4*(hexDigits-1-at))&0xf])
	}
	return string(text)
}

func parseHex(s string) (uint32, bool) {
	if len(s) > hexDigits { // noughts ahead count too
		return 0, false
	}
	return number(s, 16)
}

func parseDecimal(s string) (uint32, bool) {
	if len(s) > 1 && s[0] == '0' {
		return 0, false
	}
	return number(s, 10)
}

// number is the word whose digits to a base s has, noughts ahead or not.
func number(s string, base uint64) (uint32, bool) {
	value := valuer(base)
	n := uint64(0)
	for i := range len(s) {
		v, is := value(s[i])
		n = n*base + v
		// Asked at each digit, so that no text is long enough to wrap n itself.
		if !is || n > math.MaxUint32 {
			return 0, false
		}
	}
	return uint32(n), s != ""
}

// valuer answers what tells a digit's value to a base of at most 16, and whether it is a digit to that base.
func valuer(base uint64) func(c byte) (uint64, bool) {
	return func(c byte) (uint64, bool) {
		for v := range base {
			if digits[v] == c {
				return v, true
			}
		}
		return 0, false
	}
}
