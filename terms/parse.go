package terms

import (
	"strings"

	"tracery/api"
	"tracery/words"
)

// blanks are the bytes that may stand between words and signs.
const blanks = " \t\n\r"

// reader is a term's text, and up to where it was read.
type reader struct {
	text string
	at   int
}

// Parse reads a term's text.
func Parse(text string) (t api.Term, f api.Fault) {
	if len(text) > api.MaxText {
		return api.Term{}, api.Fault{Code: api.ErrLong}
	}
	defer func() {
		caught := recover()
		if caught == nil {
			return
		}
		given, ok := caught.(api.Fault)
		if !ok {
			// No reader gave this up: it is a fault of the program, not of the text.
			panic(caught)
		}
		t, f = api.Term{}, given
	}()
	r := &reader{text: text}
	t = r.term(1)
	if r.skip(); r.at < len(text) {
		r.fail(r.at, api.ErrRest)
	}
	return t, api.Fault{}
}

// fail gives up; Parse catches it.
func (r *reader) fail(at int, code api.Errno) {
	panic(api.Fault{At: at, Code: code})
}

// skip goes over blanks.
func (r *reader) skip() {
	rest := r.text[r.at:]
	r.at += len(rest) - len(strings.TrimLeft(rest, blanks))
}

// next is the next byte that is no blank; there is to be one.
func (r *reader) next() byte {
	r.skip()
	if r.at == len(r.text) {
		r.fail(r.at, api.ErrShort)
	}
	return r.text[r.at]
}

// term reads a term that lies so deep.
func (r *reader) term(deep int) api.Term {
	switch r.next() {
	case '"':
		return api.Term{Kind: api.TLex, Text: r.quoted(deep)}
	case '[':
		r.sign(deep)
		if r.next() == ']' {
			r.at++
			return api.Term{Kind: api.TList}
		}
		return api.Term{Kind: api.TList, Kids: r.kids(deep+1, ']')}
	case '-':
		r.sign(deep)
		return api.Term{Kind: api.TNone}
	case '?':
		r.sign(deep)
		return api.Term{Kind: api.TSome, Kids: []api.Term{r.term(deep + 1)}}
	}
	t := api.Term{Kind: api.TApp, Cons: r.name(deep)}
	if r.skip(); strings.HasPrefix(r.text[r.at:], "(") {
		r.at++
		t.Kids = r.kids(deep+1, ')')
	}
	return t
}

// bound gives up at a term that lies too deep: here it begins.
func (r *reader) bound(deep int) {
	if deep > api.MaxNest {
		r.fail(r.at, api.ErrLong)
	}
}

// sign passes the sign with which a term begins.
func (r *reader) sign(deep int) {
	r.bound(deep)
	r.at++
}

// name reads the name with which a term begins. That it is too long is named ahead of that the term is too deep.
func (r *reader) name(deep int) string {
	rest := r.text[r.at:]
	if !words.IsName(rest[:1]) {
		r.fail(r.at, api.ErrByte)
	}
	n := spanLetters(rest)
	if n > api.MaxName {
		r.fail(r.at, api.ErrName)
	}
	r.bound(deep)
	r.at += n
	return strings.Clone(rest[:n]) // what is told keeps nothing of the text
}

// spanLetters is how many letters and digits a text begins with.
func spanLetters(s string) int {
	for i := range len(s) {
		if !isLetter(s[i]) {
			return i
		}
	}
	return len(s)
}

func isLetter(c byte) bool {
	return 'A' <= c && c <= 'Z' || 'a' <= c && c <= 'z' || '0' <= c && c <= '9'
}

// quoted reads the text in quotes that is a term. That its end is missing is told at its beginning too, and named ahead of that the term is too deep.
func (r *reader) quoted(deep int) []byte {
	rest := r.text[r.at:]
	text, fault := words.Unquote(rest)
	if fault.Code == api.ErrRest {
		rest = rest[:fault.At]
		text, fault = words.Unquote(rest)
	}
	if fault.Code != api.ErrOpen {
		r.bound(deep)
	}
	if fault.Code != api.OK {
		r.fail(r.at+fault.At, fault.Code)
	}
	r.at += len(rest)
	return text
}

// kids reads terms with commas between them, one at least, and the sign behind them.
func (r *reader) kids(deep int, end byte) []api.Term {
	list := []api.Term{r.term(deep)}
	for r.next() != end {
		if r.next() != ',' {
			r.fail(r.at, api.ErrByte)
		}
		r.at++
		list = append(list, r.term(deep))
	}
	r.at++
	return list
}
