package defs

import (
	"strings"
	"testing"

	"tracery/api"
)

// A pattern of words, each told by one letter: another way to say the grammar of chapter 3. Of a pattern it is asked what may follow a letter (Brzozowski's derivatives).
type pattern struct {
	kind byte // 0: nothing at all; 1: no letter; 'c': one of set; '.': a then b; '|': a or b; '*': a, any number of times
	set  string
	a, b *pattern
}

var (
	never = &pattern{}
	empty = &pattern{kind: 1}
)

func one(set string) *pattern { return &pattern{kind: 'c', set: set} }

func then(list ...*pattern) *pattern {
	p := empty
	for i := len(list) - 1; i >= 0; i-- {
		switch q := list[i]; {
		case q == never || p == never:
			p = never
		case q == empty:
		case p == empty:
			p = q
		default:
			p = &pattern{kind: '.', a: q, b: p}
		}
	}
	return p
}

func or(list ...*pattern) *pattern {
	p := never
	for _, q := range list {
		switch {
		case q == never:
		case p == never:
			p = q
		default:
			p = &pattern{kind: '|', a: p, b: q}
		}
	}
	return p
}

func many(p *pattern) *pattern { return &pattern{kind: '*', a: p} }

func (p *pattern) mayEnd() bool {
	switch p.kind {
	case 1, '*':
		return true
	case '.':
		return p.a.mayEnd() && p.b.mayEnd()
	case '|':
		return p.a.mayEnd() || p.b.mayEnd()
	}
	return false
}

// behind is what may follow a letter.
func (p *pattern) behind(c byte) *pattern {
	switch p.kind {
	case 'c':
		if strings.IndexByte(p.set, c) >= 0 {
			return empty
		}
	case '.':
		first := then(p.a.behind(c), p.b)
		if p.a.mayEnd() {
			return or(first, p.b.behind(c))
		}
		return first
	case '|':
		return or(p.a.behind(c), p.b.behind(c))
	case '*':
		return then(p.a.behind(c), p)
	}
	return never
}

// spelt is a word for each letter.
var spelt = map[byte]string{
	's': "start", 'l': "layout", 'x': "lex", 'c': "cf", 'p': "prio", 'f': "follow", 'r': "reject", 'b': "box",
	'L': "left", 'R': "right", 'O': "non", 'k': "bracket", 'n': "nest", 'g': "group", 'z': "zero",
	'N': "Name", 'T': `"t"`, 'E': `""`, 'S': "[s]", '1': "12",
	'=': "=", '|': "|", '.': ".", ';': ";", '>': ">", '?': "?", '*': "*", '+': "+", '{': "{", '}': "}", '(': "(", ')': ")", '_': "_", '/': "/", ',': ",", '-': "-",
}

// wholeGrammar is chapter 3's, with items within one another up to depth.
func wholeGrammar(depth int) *pattern {
	item := one("TE1_/")
	for range depth {
		item = or(one("TE1_/"), then(one("n"), one("1"), one("("), many(item), one(")")), then(one("g"), one("("), many(item), one(")")))
	}
	sym := or(one("TE"), then(one("NS"), or(empty, one("?*+"))), then(one("{"), one("N"), one("T"), one("}"), one("*+")))
	syms := then(sym, many(sym))
	group := then(or(empty, one("LRO")), one("N"), many(one("N")))
	return many(or(
		then(one("sl"), one("N"), one(";")),
		then(one("x"), one("N"), or(empty, then(one("."), one("N"))), one("="), syms, many(then(one("|"), syms)), one(";")),
		then(one("c"), one("N"), one("."), one("N"), one("="), syms, one(";")),
		then(one("c"), one("N"), one("="), syms, one("k"), one(";")),
		then(one("p"), group, many(then(one(">"), group)), one(";")),
		then(one("f"), one("N"), one("S"), one(";")),
		then(one("r"), one("N"), one("N"), one(";")),
		then(one("b"), one("N"), one("="), many(item), one(";")),
	))
}

// TestParseAllShortTexts goes on with each word, as long as more could follow.
func TestParseAllShortTexts(t *testing.T) {
	const longest = 8
	tried := 0
	var goOn func(text, said string, p *pattern)
	goOn = func(text, said string, p *pattern) {
		for c, word := range spelt {
			tried++
			more, q := text+word+" ", p.behind(c)
			want := api.Fault{}
			switch {
			case q == never:
				want = api.Fault{At: len(text), Code: api.ErrWord}
			case (c == 's' || c == 'l') && strings.IndexByte(said, c) >= 0:
				want = api.Fault{At: len(text), Code: api.ErrTwice}
			case !q.mayEnd():
				want = api.Fault{At: len(more), Code: api.ErrWord}
			}
			d, f := Parse(more)
			if f != want {
				t.Fatalf("Parse(%q): %v, not %v", more, f, want)
			}
			if f.Code == api.OK && !Right(d) {
				t.Fatalf("Parse(%q) is not right", more)
			}
			if q != never && f.Code != api.ErrTwice && len(said) < longest-1 {
				goOn(more, said+string(c), q)
			}
		}
	}
	goOn("", "", wholeGrammar(3))
	if tried < 100000 {
		t.Errorf("only %d texts", tried)
	}
}
