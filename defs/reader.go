package defs

import (
	"tracery/api"
)

// word is the next word.
func (r *reader) word() api.Word { return r.words[0] }

func (r *reader) pass() { r.words = r.words[1:] }

// fail gives up at the next word; Parse catches it.
func (r *reader) fail(code api.Errno) {
	panic(api.Fault{At: r.word().At, Code: code})
}

// room gives up at the next word, if what it begins is one too many.
func (r *reader) room(have, most int) {
	if have >= most {
		r.fail(api.ErrLong)
	}
}

// is tells whether the next word is this key or sign. No word of another kind has such a text.
func (r *reader) is(text string) bool { return r.word().Text == text }

// skip passes the next word, if it is this key or sign.
func (r *reader) skip(text string) bool {
	if !r.is(text) {
		return false
	}
	r.pass()
	return true
}

func (r *reader) want(text string) {
	if !r.skip(text) {
		r.fail(api.ErrWord)
	}
}

// take passes the next word, which is to be of this kind.
func (r *reader) take(kind int) api.Word {
	w := r.word()
	if w.Kind != kind {
		r.fail(api.ErrWord)
	}
	r.pass()
	return w
}

func (r *reader) name() string { return r.take(api.WName).Text }

func (r *reader) set() api.Set { return r.take(api.WSet).Set }

func (r *reader) number() int { return r.take(api.WNumber).N }

// text reads what a text in quotes says.
func (r *reader) text() string {
	w := r.word()
	if w.Kind == api.WText && len(w.Bytes) > api.MaxLit {
		r.fail(api.ErrLong)
	}
	return string(r.take(api.WText).Bytes)
}
