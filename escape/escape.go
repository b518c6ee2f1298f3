// Package escape has the signs that begin with a `\`, as sets and texts in quotes both have them.
// Each of the two has short signs of its own: letters are the bytes behind the `\`, said the bytes that they say, one for one.
package escape

import "strings"

const digits = "0123456789abcdef"

// Write is the short sign of a byte, or `\x` and two digits where it has none.
func Write(b byte, letters, said string) string {
	if i := strings.IndexByte(said, b); i >= 0 && i < len(letters) {
		return `\` + letters[i:i+1]
	}
	return `\x` + digits[b>>4:b>>4+1] + digits[b&15:b&15+1]
}

// Read is the byte that the sign at the beginning of text says, and how many bytes the sign has: 0, if it is none.
func Read(text string, letters, said string) (byte, int) {
	if len(text) < 2 || text[0] != '\\' {
		return 0, 0
	}
	if i := strings.IndexByte(letters, text[1]); i >= 0 && i < len(said) {
		return said[i], 2
	}
	if len(text) < 4 || text[1] != 'x' {
		return 0, 0
	}
	high, low := digit(text[2]), digit(text[3])
	if high < 0 || low < 0 {
		return 0, 0
	}
	return byte(high<<4 | low), 4
}

// digit is what a hexadecimal digit says: -1, if it is none.
func digit(c byte) int {
	switch {
	case '0' <= c && c <= '9':
		return int(c - '0')
	case 'a' <= c && c <= 'f':
		return int(c-'a') + 10
	case 'A' <= c && c <= 'F':
		return int(c-'A') + 10
	}
	return -1
}
