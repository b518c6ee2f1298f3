package terms

import (
	"tracery/api"
	"tracery/kin"
	"tracery/words"
)

// Print tells a term's text.
func Print(t api.Term) (string, api.Errno) {
	if !Right(t) {
		return "", api.ErrTerm
	}
	if !fits(t) {
		return "", api.ErrLong
	}
	return string(appendTerm(nil, t)), api.OK
}

// fits tells whether the text of a right term has no more bytes than a text may have.
func fits(t api.Term) bool {
	size := 0
	for part := range kin.Parts(&t, kin.OfTerm) {
		size += ownSize(part)
		if size > api.MaxText {
			return false
		}
	}
	return true
}

// ownSize is how many bytes a right term adds to those of its kids.
func ownSize(t *api.Term) int {
	commas := max(len(t.Kids)-1, 0)
	switch {
	case t.Kind == api.TLex && len(t.Text) > api.MaxText:
		return len(t.Text) // it is too long in any case
	case t.Kind == api.TLex:
		return len(words.Quote(t.Text))
	case t.Kind == api.TList:
		return len("[]") + commas
	case t.Kind == api.TApp && len(t.Kids) > 0:
		return len(t.Cons) + len("()") + commas
	case t.Kind == api.TApp:
		return len(t.Cons)
	}
	return len("-")
}

// appendTerm puts the text of a right term behind another one; it calls itself no deeper than MaxNest.
func appendTerm(text []byte, t api.Term) []byte {
	switch t.Kind {
	case api.TLex:
		return append(text, words.Quote(t.Text)...)
	case api.TList:
		return appendKids(text, '[', t.Kids, ']')
	case api.TNone:
		return append(text, '-')
	case api.TSome:
		return appendTerm(append(text, '?'), t.Kids[0])
	}
	text = append(text, t.Cons...)
	if len(t.Kids) == 0 {
		return text
	}
	return appendKids(text, '(', t.Kids, ')')
}

// appendKids puts terms between two signs, with commas between them.
func appendKids(text []byte, open byte, kids []api.Term, end byte) []byte {
	text = append(text, open)
	for i, kid := range kids {
		if i > 0 {
			text = append(text, ',')
		}
		text = appendTerm(text, kid)
	}
	return append(text, end)
}
