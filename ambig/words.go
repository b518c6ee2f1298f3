package ambig

import (
	"bytes"
	"iter"
	"slices"
)

// words goes through the words of at most so many bytes, in their order. One is as it was told only till the next one is.
func words(signs []byte, most int) iter.Seq[[]byte] {
	return func(yield func([]byte) bool) {
		if !yield(nil) || len(signs) == 0 {
			return
		}
		for length := 1; length <= most; length++ {
			word := bytes.Repeat(signs[:1], length)
			for more := true; more; more = advance(word, signs) {
				if !yield(word) {
					return
				}
			}
		}
	}
}

// advance makes a word the next one of its length; false, if it is the last one.
func advance(word, signs []byte) bool {
	for i, b := range slices.Backward(word) {
		at, _ := slices.BinarySearch(signs, b)
		if at+1 < len(signs) {
			word[i] = signs[at+1]
			return true
		}
		word[i] = signs[0]
	}
	return false
}

// longest is how many bytes the longest of the first words has, if there are so many signs.
func longest(signs, most, first int) int {
	if signs == 0 {
		return 0
	}
	length := 0
	for row := 1; length < most && first > row; row *= signs { // a row is the words of one length
		first -= row
		length++
	}
	return length
}
