package trees

import (
	"strings"

	"tracery/api"
)

// maxDigits is how many digits a number may have.
const maxDigits = 6

// reader is a tree's text, and up to where it was read.
type reader struct {
	text string
	at   int
}

// Parse reads a tree's text.
func Parse(text string) (t api.Tree, f api.Fault) {
	if len(text) > api.MaxText {
		return api.Tree{}, api.Fault{Code: api.ErrLong}
	}
	defer func() {
		caught := recover()
		if caught == nil {
			return
		}
		given, ok := caught.(api.Fault)
		if !ok {
			// No reader gave this up: it is a fault of the program, not of the text.
			panic(caught)
		}
		t, f = api.Tree{}, given
	}()
	r := &reader{text: text}
	t = r.tree(1)
	if r.at < len(text) {
		r.fail(api.ErrRest)
	}
	return t, api.Fault{}
}

// fail gives up at the next byte; Parse catches it.
func (r *reader) fail(code api.Errno) {
	panic(api.Fault{At: r.at, Code: code})
}

// next is the next byte; there is to be one.
func (r *reader) next() byte {
	if r.at == len(r.text) {
		r.fail(api.ErrShort)
	}
	return r.text[r.at]
}

// want passes the next byte, which is to be this one.
func (r *reader) want(b byte) {
	if r.next() != b {
		r.fail(api.ErrByte)
	}
	r.at++
}

// tree reads a tree that lies so deep.
func (r *reader) tree(deep int) api.Tree {
	first := r.next()
	if first != 'x' && !isDigit(first) {
		r.fail(api.ErrByte)
	}
	if deep > api.MaxNest {
		r.fail(api.ErrLong)
	}
	if first == 'x' {
		r.at++
		high := r.half()
		return api.Tree{Rule: -1, Byte: high<<4 | r.half()}
	}
	rule := r.number()
	return api.Tree{Rule: rule, Kids: r.kids(deep + 1)}
}

// half reads a hexadecimal digit.
func (r *reader) half() byte {
	value := strings.IndexByte(hexDigits, r.next())
	if value < 0 {
		r.fail(api.ErrByte)
	}
	r.at++
	return byte(value)
}

func isDigit(b byte) bool { return '0' <= b && b <= '9' }

// number reads the digits there are, one at least.
func (r *reader) number() int {
	n := 0
	for from := r.at; isDigit(r.next()); r.at++ {
		digits := r.at - from
		if digits == maxDigits || digits > 0 && n == 0 {
			r.fail(api.ErrByte)
		}
		n = 10*n + int(r.next()-'0')
	}
	return n
}

// kids reads the trees in brackets, with one blank between them.
func (r *reader) kids(deep int) []api.Tree {
	r.want('(')
	var list []api.Tree
	for r.next() != ')' {
		if len(list) > 0 {
			r.want(' ')
		}
		list = append(list, r.tree(deep))
	}
	r.at++
	return list
}
