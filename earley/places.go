package earley

import (
	"iter"
	"math/bits"

	"tracery/api"
)

// places is a set of places of a text: bit p%64 of word p/64 says whether place p is in it.
type places [api.MaxInput/64 + 1]uint64

func onePlace(p int) places {
	var s places
	s[p/64] = 1 << (p % 64)
	return s
}

func (s *places) has(p int) bool { return s[p/64]>>(p%64)&1 == 1 }

// add puts the places of more into s, and tells which of them are new there.
func (s *places) add(more *places) places {
	var fresh places
	for i, word := range more {
		fresh[i] = word &^ s[i]
		s[i] |= word
	}
	return fresh
}

func (s *places) size() int {
	n := 0
	for _, word := range s {
		n += bits.OnesCount64(word)
	}
	return n
}

// all goes through the places, rising.
func (s *places) all() iter.Seq[int] {
	return func(yield func(int) bool) {
		for i, word := range s {
			for ; word != 0; word &= word - 1 {
				if !yield(64*i + bits.TrailingZeros64(word)) {
					return
				}
			}
		}
	}
}
