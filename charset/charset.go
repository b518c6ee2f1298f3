// Package charset is layer 1: see shared/doc/01-charset.md.
package charset

import (
	"iter"
	"math/bits"

	"tracery/api"
)

// Of is the set of just these bytes.
func Of(b ...byte) api.Set {
	var s api.Set
	for _, c := range b {
		s[c/64] |= 1 << (c % 64)
	}
	return s
}

// Range is the bytes from lo to hi.
func Range(lo, hi int) (api.Set, api.Errno) {
	if lo < 0 || hi > 255 || lo > hi {
		return api.Set{}, api.ErrRange
	}
	var s api.Set
	for b := lo; b <= hi; b++ {
		s[b/64] |= 1 << (b % 64)
	}
	return s, api.OK
}

// Has tells whether a byte is in a set.
func Has(s api.Set, b byte) bool { return s[b/64]>>(b%64)&1 == 1 }

// Union is what is in a or b.
func Union(a, b api.Set) api.Set {
	for i, w := range b {
		a[i] |= w
	}
	return a
}

// Meet is what is in both.
func Meet(a, b api.Set) api.Set {
	for i, w := range b {
		a[i] &= w
	}
	return a
}

// Minus is what is in a and not in b.
func Minus(a, b api.Set) api.Set { return Meet(a, Not(b)) }

// Not is what is not in a.
func Not(a api.Set) api.Set {
	for i, w := range a {
		a[i] = ^w
	}
	return a
}

// Size is how many bytes a set has.
func Size(s api.Set) int {
	n := 0
	for _, w := range s {
		n += bits.OnesCount64(w)
	}
	return n
}

// Within tells whether each byte of a is in b.
func Within(a, b api.Set) bool { return Meet(a, b) == a }

// All goes through a set's bytes, rising.
func All(s api.Set) iter.Seq[byte] {
	return func(yield func(byte) bool) {
		for b := range 256 {
			if Has(s, byte(b)) && !yield(byte(b)) {
				return
			}
		}
	}
}

// Bytes is a set's bytes, rising.
func Bytes(s api.Set) []byte {
	var list []byte
	for b := range All(s) {
		list = append(list, b)
	}
	return list
}

// Runs is a set's runs, rising.
func Runs(s api.Set) []api.Run {
	var runs []api.Run
	for c := range All(s) {
		b := int(c)
		if n := len(runs); n > 0 && runs[n-1].Hi == b-1 {
			runs[n-1].Hi = b
		} else {
			runs = append(runs, api.Run{Lo: b, Hi: b})
		}
	}
	return runs
}
