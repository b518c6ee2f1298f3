package tools

import (
	"strconv"
	"strings"

	"tracery/api"
	"tracery/words"
)

// told is what stands in a line of an answer, or all of it.
type told interface{ text() string }

// word stands as it is.
type word string

func (w word) text() string { return string(w) }

// number stands in digits.
type number int

func (n number) text() string { return strconv.Itoa(int(n)) }

// row is parts with one blank between each two.
type row []told

func (r row) text() string {
	var parts []string
	for _, part := range r {
		parts = append(parts, part.text())
	}
	return strings.Join(parts, " ")
}

// lineOf is a line of an answer, with its end.
func lineOf(t told) string { return t.text() + "\n" }

// quote is a text in quotes.
func quote(b []byte) told { return word(words.Quote(b)) }

// done tells what came out of a line.
func done(parts ...told) told { return append(row{word("ok")}, parts...) }

// failed tells an error.
func failed(code api.Errno) told { return row{word("error"), number(code)} }

// failedAt tells an error and its place.
func failedAt(code api.Errno, at int) told { return row{failed(code), word("at"), number(at)} }

// noLine tells that a line is none of a script's.
func noLine() told { return failed(api.ErrForm) }

// refused tells what is wrong with a definition.
func refused(fault api.Fault, name string) told {
	if name == "" {
		return failedAt(fault.Code, fault.At)
	}
	return row{failedAt(fault.Code, fault.At), word(name)}
}
