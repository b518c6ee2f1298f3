// Package words is layer 2: see shared/doc/02-words.md.
package words

import (
	"strings"

	"tracery/api"
)

// IsName tells whether s is a name.
func IsName(s string) bool { return s != "" && isGreat(rune(s[0])) && isWhole(s) }

// IsKey tells whether s is a key.
func IsKey(s string) bool { return s != "" && isSmall(rune(s[0])) && isWhole(s) }

// isWhole tells whether s is letters and digits alone, and no more of them than a name may have.
func isWhole(s string) bool { return len(s) <= api.MaxName && spanLetters(s) == len(s) }

// spanLetters is how many letters and digits s begins with.
func spanLetters(s string) int {
	for i, r := range s {
		if !isGreat(r) && !isSmall(r) && !isDigit(r) {
			return i
		}
	}
	return len(s)
}

// spanDigits is how many digits s begins with.
func spanDigits(s string) int {
	for i, r := range s {
		if !isDigit(r) {
			return i
		}
	}
	return len(s)
}

func isGreat(r rune) bool { return 'A' <= r && r <= 'Z' }

func isSmall(r rune) bool { return 'a' <= r && r <= 'z' }

func isDigit(r rune) bool { return '0' <= r && r <= '9' }

// Place is the line and column of a place.
func Place(text string, at int) (int, int) {
	if at < 0 || at > len(text) {
		return 0, 0
	}
	ahead := text[:at]
	return strings.Count(ahead, "\n") + 1, at - strings.LastIndexByte(ahead, '\n')
}

// Join is the texts of words, with a blank between them.
func Join(l []api.Word) string {
	var text strings.Builder
	first := true // asked, and not the length, since a word's text may be empty
	for _, w := range l {
		if w.Kind == api.WEnd {
			continue
		}
		if !first {
			text.WriteByte(' ')
		}
		first = false
		text.WriteString(w.Text)
	}
	return text.String()
}
