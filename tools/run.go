package tools

import (
	"strconv"
	"strings"

	"tracery/api"
	"tracery/earley"
	"tracery/terms"
	"tracery/words"
)

// deed is what a key asks for; it is handed what stands behind the key, with the blank ahead of it.
type deed func(l *Lang, rest string) told

// deeds is what each key asks for.
func deeds() map[string]deed {
	return map[string]deed{
		"read":   (*Lang).readLine,
		"last":   (*Lang).lastLine,
		"print":  (*Lang).printLine,
		"search": (*Lang).searchLine,
		"sorts":  (*Lang).sortsLine,
	}
}

// Run does a script.
func Run(text, script string) string {
	l, fault, name := Load(text)
	switch {
	case l == nil:
		return lineOf(refused(fault, name))
	case len(script) > api.MaxText:
		return lineOf(failed(api.ErrLong))
	}
	var answer strings.Builder
	for _, line := range strings.Split(script, "\n") {
		if line != "" {
			answer.WriteString(lineOf(l.do(line)))
		}
	}
	return answer.String()
}

// do does a line of a script.
func (l *Lang) do(line string) told {
	key, _, _ := strings.Cut(line, " ")
	if does, known := deeds()[key]; known {
		return does(l, line[len(key):])
	}
	return noLine()
}

func (l *Lang) readLine(rest string) told {
	w, is := quoted(rest)
	if !is {
		return noLine()
	}
	answer, code := l.Read(w)
	switch code {
	case api.OK:
		return readTold(answer)
	case api.ErrNone:
		return failedAt(code, answer.Last)
	}
	return failed(code)
}

// readTold tells what was read, if its term has a text.
func readTold(answer Answer) told {
	text, code := terms.Print(answer.Term)
	if code != api.OK {
		return failed(code)
	}
	return done(number(answer.Count), word(text))
}

func (l *Lang) lastLine(rest string) told {
	w, is := quoted(rest)
	if !is {
		return noLine()
	}
	last, code := earley.Last(l.gram, w)
	if code != api.OK {
		return failed(code)
	}
	return done(number(last))
}

func (l *Lang) printLine(rest string) told {
	first, term, has := strings.Cut(strings.TrimPrefix(rest, " "), " ")
	width, is := numberOf(first)
	if !has || !is {
		return noLine()
	}
	text, fault := l.Print(term, width)
	if fault.Code != api.OK {
		return failedAt(fault.Code, fault.At)
	}
	return done(quote([]byte(text)))
}

func (l *Lang) searchLine(rest string) told {
	first, second, _ := strings.Cut(strings.TrimPrefix(rest, " "), " ")
	n, isFirst := numberOf(first)
	budget, isSecond := numberOf(second)
	if !isFirst || !isSecond {
		return noLine()
	}
	found, code := l.Search(n, budget)
	switch {
	case code != api.OK:
		return failed(code)
	case found.Kind == api.QWitness:
		return done(word("witness"), quote(found.Word), number(found.Tried))
	case found.Kind == api.QExhausted:
		return done(word("exhausted"), number(found.Tried))
	}
	return done(word("none"), number(found.Tried))
}

func (l *Lang) sortsLine(rest string) told {
	if rest != "" {
		return noLine()
	}
	var names []told
	for _, sort := range l.Sorts() {
		names = append(names, word(sort))
	}
	return done(names...)
}

// quoted is what a text in quotes says, with a blank ahead of it.
func quoted(rest string) ([]byte, bool) {
	w, fault := words.Unquote(strings.TrimPrefix(rest, " "))
	return w, fault.Code == api.OK
}

// maxNumber has as many digits as a number may have.
const maxNumber = 999999

// numberOf reads a number: only one that is written as it would be told is one.
func numberOf(text string) (int, bool) {
	n, err := strconv.Atoi(text)
	if err != nil || n < 0 || n > maxNumber || strconv.Itoa(n) != text {
		return 0, false
	}
	return n, true
}
