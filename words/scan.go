package words

import (
	"strings"

	"tracery/api"
	"tracery/charset"
)

const signs = "=|.;>?*+{}()_/,-"

const maxDigits = 6

// scanner is a text, the place up to which it is read, and the line there and its first place.
type scanner struct {
	text            string
	at, line, begin int
}

// Scan parts a text into words.
func Scan(text string) ([]api.Word, api.Fault) {
	if len(text) > api.MaxText {
		return nil, api.Fault{Code: api.ErrLong}
	}
	s := scanner{text: text, line: 1}
	var list []api.Word
	for {
		s.skip()
		w, fault := readWord(text[s.at:])
		if fault.Code != api.OK {
			return nil, api.Fault{At: s.at + fault.At, Code: fault.Code}
		}
		list = append(list, s.pass(w))
		if w.Kind == api.WEnd {
			return list, api.Fault{}
		}
	}
}

// skip goes over blanks and remarks.
func (s *scanner) skip() {
	for s.at < len(s.text) {
		switch s.text[s.at] {
		case ' ', '\t', '\r':
			s.at++
		case '\n':
			s.at++
			s.line++
			s.begin = s.at
		case '#':
			s.at += spanRemark(s.text[s.at:])
		default:
			return
		}
	}
}

// spanRemark is how many bytes the remark has with which rest begins. The byte 10 is left, so that skip counts its line.
func spanRemark(rest string) int {
	if n := strings.IndexByte(rest, '\n'); n >= 0 {
		return n
	}
	return len(rest)
}

// pass goes over a word, and is the word with its place. No word has a byte 10 in it, so the line stays.
func (s *scanner) pass(w api.Word) api.Word {
	w.At, w.Line, w.Col = s.at, s.line, s.at-s.begin+1
	s.at += len(w.Text)
	return w
}

// readWord reads the word with which rest begins; places are counted in rest.
func readWord(rest string) (api.Word, api.Fault) {
	if rest == "" {
		return api.Word{Kind: api.WEnd}, api.Fault{}
	}
	switch c := rest[0]; {
	case isGreat(rune(c)):
		return readLetters(rest, api.WName)
	case isSmall(rune(c)):
		return readLetters(rest, api.WKey)
	case isDigit(rune(c)):
		return readNumber(rest)
	case c == '"':
		return readText(rest)
	case c == '[':
		return readSet(rest)
	case strings.IndexByte(signs, c) >= 0:
		return newWord(api.WSign, rest[:1]), api.Fault{}
	}
	return api.Word{}, api.Fault{Code: api.ErrByte}
}

// newWord copies the text, since an answer shares no memory with what was handed in.
func newWord(kind int, text string) api.Word {
	return api.Word{Kind: kind, Text: strings.Clone(text)}
}

// readLetters reads a name or a key.
func readLetters(rest string, kind int) (api.Word, api.Fault) {
	n := spanLetters(rest)
	if n > api.MaxName {
		return api.Word{}, api.Fault{Code: api.ErrName}
	}
	return newWord(kind, rest[:n]), api.Fault{}
}

func readNumber(rest string) (api.Word, api.Fault) {
	n := spanDigits(rest)
	if n > maxDigits || n > 1 && rest[0] == '0' {
		return api.Word{}, api.Fault{Code: api.ErrNumber}
	}
	w := newWord(api.WNumber, rest[:n])
	for _, r := range w.Text {
		w.N = w.N*10 + int(r-'0')
	}
	return w, api.Fault{}
}

func readText(rest string) (api.Word, api.Fault) {
	b, end, fault := readQuoted(rest)
	if fault.Code != api.OK {
		return api.Word{}, fault
	}
	w := newWord(api.WText, rest[:end])
	w.Bytes = b
	return w, api.Fault{}
}

func readSet(rest string) (api.Word, api.Fault) {
	n := spanSet(rest)
	if n == 0 {
		return api.Word{}, api.Fault{Code: api.ErrOpen}
	}
	set, fault := charset.Parse(rest[:n])
	if fault.Code != api.OK {
		return api.Word{}, fault
	}
	w := newWord(api.WSet, rest[:n])
	w.Set = set
	return w, api.Fault{}
}

// spanSet is how many bytes the set has with which rest begins: 0, if its end is missing.
func spanSet(rest string) int {
	for at := 1; at < len(rest); at++ {
		switch rest[at] {
		case '\\':
			at++
		case ']':
			return at + 1
		}
	}
	return 0
}
