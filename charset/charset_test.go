package charset

import (
	"math"
	"slices"
	"testing"

	"tracery/api"
)

// samples are the empty set, the full one, sets at the words' borders, and sets strewn over all bytes, the same at each run.
func samples() []api.Set {
	list := []api.Set{{}, {^uint64(0), ^uint64(0), ^uint64(0), ^uint64(0)}}
	for _, b := range []byte{0, 1, 9, 10, 13, 32, 33, 63, 64, 94, 126, 127, 128, 191, 192, 254, 255} {
		list = append(list, Of(b), Of(b, b+1), Of(b, b+1, b+2), Of(b, b+2))
	}
	state := uint64(88172645463325252)
	next := func() uint64 {
		state ^= state << 13
		state ^= state >> 7
		state ^= state << 17
		return state
	}
	for range 30 {
		dense := api.Set{next(), next(), next(), next()}
		thin := dense
		for i := range thin {
			thin[i] &= next() & next() & next()
		}
		list = append(list, dense, thin)
	}
	return list
}

// naive is a set as 256 bools, by the words of package api alone.
func naive(s api.Set) [256]bool {
	var in [256]bool
	for b := range in {
		in[b] = s[b/64]&(1<<(b%64)) != 0
	}
	return in
}

func TestOf(t *testing.T) {
	if Of() != (api.Set{}) {
		t.Errorf("Of() = %v", Of())
	}
	for b := range 256 {
		s := Of(byte(b), byte(b))
		for c := range 256 {
			if naive(s)[c] != (b == c) || Has(s, byte(c)) != (b == c) {
				t.Fatalf("Of(%d) at %d: %v", b, c, s)
			}
		}
	}
	given := []byte{200, 3, 3, 7}
	behind := given[:2]
	if s := Of(behind...); s != Of(3, 200) {
		t.Errorf("Of reads behind a list's length: %v", s)
	}
	if !slices.Equal(given, []byte{200, 3, 3, 7}) {
		t.Errorf("Of changes what it is given: %v", given)
	}
}

func TestRange(t *testing.T) {
	for lo := -3; lo <= 258; lo++ {
		for hi := -3; hi <= 258; hi++ {
			s, e := Range(lo, hi)
			if lo < 0 || hi > 255 || lo > hi {
				if e != api.ErrRange || s != (api.Set{}) {
					t.Fatalf("Range(%d, %d) = %v %v", lo, hi, s, e)
				}
				continue
			}
			if e != api.OK || Size(s) != hi-lo+1 || !Has(s, byte(lo)) || !Has(s, byte(hi)) || len(Runs(s)) != 1 {
				t.Fatalf("Range(%d, %d) = %v %v", lo, hi, s, e)
			}
		}
	}
	for _, c := range [][2]int{{math.MinInt, math.MaxInt}, {math.MaxInt, math.MinInt}, {0, math.MaxInt}, {math.MinInt, 255}, {256, 256}, {math.MaxInt, math.MaxInt}} {
		if s, e := Range(c[0], c[1]); e != api.ErrRange || s != (api.Set{}) {
			t.Errorf("Range(%d, %d) = %v %v", c[0], c[1], s, e)
		}
	}
}

func TestOperationsByteByByte(t *testing.T) {
	for _, a := range samples() {
		in := naive(a)
		size := 0
		for b := range in {
			if Has(a, byte(b)) != in[b] || Has(Not(a), byte(b)) == in[b] {
				t.Fatalf("Has, Not of %v at %d", a, b)
			}
			if in[b] {
				size++
			}
		}
		if Size(a) != size {
			t.Fatalf("Size(%v) = %d, not %d", a, Size(a), size)
		}
		for _, b := range samples() {
			other := naive(b)
			union, meet, minus := naive(Union(a, b)), naive(Meet(a, b)), naive(Minus(a, b))
			within := true
			for i := range in {
				if union[i] != (in[i] || other[i]) || meet[i] != (in[i] && other[i]) || minus[i] != (in[i] && !other[i]) {
					t.Fatalf("Union, Meet, Minus of %v %v at %d", a, b, i)
				}
				within = within && (!in[i] || other[i])
			}
			if Within(a, b) != within {
				t.Fatalf("Within(%v, %v) = %v", a, b, !within)
			}
		}
	}
}

func TestAlgebra(t *testing.T) {
	for _, a := range samples() {
		if Not(Not(a)) != a || Size(a)+Size(Not(a)) != 256 {
			t.Fatalf("Not(%v)", a)
		}
		for _, b := range samples() {
			if Not(Union(a, b)) != Meet(Not(a), Not(b)) {
				t.Fatalf("Not of the union of %v %v", a, b)
			}
			if Minus(a, b) != Meet(a, Not(b)) {
				t.Fatalf("Minus(%v, %v)", a, b)
			}
			if Size(Union(a, b))+Size(Meet(a, b)) != Size(a)+Size(b) {
				t.Fatalf("sizes of %v %v", a, b)
			}
		}
	}
}

func TestBytesAndAll(t *testing.T) {
	for _, s := range samples() {
		var want []byte
		for b, in := range naive(s) {
			if in {
				want = append(want, byte(b))
			}
		}
		if got := Bytes(s); !slices.Equal(got, want) {
			t.Fatalf("Bytes(%v) = %v", s, got)
		}
		all := All(s)
		for range 2 { // it can be gone through again
			if got := slices.Collect(all); !slices.Equal(got, want) {
				t.Fatalf("All(%v) = %v", s, got)
			}
		}
		for stop := range want {
			var got []byte
			for b := range all {
				got = append(got, b)
				if len(got) == stop+1 {
					break
				}
			}
			if !slices.Equal(got, want[:stop+1]) {
				t.Fatalf("All(%v), left at %d: %v", s, stop, got)
			}
		}
	}
}

func TestBytesIsNewMemory(t *testing.T) {
	s := Of(1, 2, 3)
	Bytes(s)[0] = 9
	Runs(s)[0].Lo = 9
	if !slices.Equal(Bytes(s), []byte{1, 2, 3}) || !slices.Equal(Runs(s), []api.Run{{Lo: 1, Hi: 3}}) {
		t.Errorf("%v %v", Bytes(s), Runs(s))
	}
}

func TestRuns(t *testing.T) {
	for _, c := range []struct {
		s    api.Set
		want []api.Run
	}{
		{Of(), nil},
		{Not(Of()), []api.Run{{Lo: 0, Hi: 255}}},
		{Of(0), []api.Run{{Lo: 0, Hi: 0}}},
		{Of(255), []api.Run{{Lo: 255, Hi: 255}}},
		{Of(0, 255), []api.Run{{Lo: 0, Hi: 0}, {Lo: 255, Hi: 255}}},
		{Of(63, 64), []api.Run{{Lo: 63, Hi: 64}}},
		{Of('c', 'a', 'b', 'x'), []api.Run{{Lo: 'a', Hi: 'c'}, {Lo: 'x', Hi: 'x'}}},
		{Not(Of(100)), []api.Run{{Lo: 0, Hi: 99}, {Lo: 101, Hi: 255}}},
	} {
		if got := Runs(c.s); !slices.Equal(got, c.want) {
			t.Errorf("Runs(%v) = %v", c.s, got)
		}
	}
	for _, s := range samples() {
		var whole api.Set
		last := -2
		for _, r := range Runs(s) {
			if r.Lo <= last+1 || r.Hi < r.Lo {
				t.Fatalf("Runs(%v) = %v", s, Runs(s))
			}
			part, e := Range(r.Lo, r.Hi)
			if e != api.OK {
				t.Fatalf("Runs(%v) = %v", s, Runs(s))
			}
			whole = Union(whole, part)
			last = r.Hi
		}
		if whole != s {
			t.Fatalf("Runs(%v) = %v", s, Runs(s))
		}
	}
}
