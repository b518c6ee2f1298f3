package defs

import (
	"strconv"
	"strings"

	"tracery/api"
	"tracery/charset"
	"tracery/words"
)

// Signs with no blank ahead of them, and with none behind them.
const (
	bareAhead  = ";.?*+}"
	bareBehind = ".{"
)

// writer is a text that grows word by word, and the last word of its line.
type writer struct {
	text []byte
	last string
}

// Print is a definition's text.
func Print(d api.Def) (string, api.Errno) {
	if !Right(d) {
		return "", api.ErrForm
	}
	w := &writer{}
	w.def(d)
	if len(w.text) > api.MaxText {
		return "", api.ErrLong
	}
	return string(w.text), api.OK
}

func isOneOf(word, signs string) bool { return len(word) == 1 && strings.Contains(signs, word) }

// put writes words, with blanks where they stand. A text that is too long already needs no more of them.
func (w *writer) put(list ...string) {
	for _, word := range list {
		if len(w.text) > api.MaxText {
			return
		}
		if w.last != "" && !isOneOf(word, bareAhead) && !isOneOf(w.last, bareBehind) {
			w.text = append(w.text, ' ')
		}
		w.text = append(w.text, word...)
		w.last = word
	}
}

// end ends a statement and its line.
func (w *writer) end() {
	w.put(";")
	w.text = append(w.text, '\n')
	w.last = ""
}

func (w *writer) def(d api.Def) {
	w.named("start", d.Start)
	w.named("layout", d.Layout)
	for _, p := range d.Prods {
		w.prod(p)
	}
	for _, c := range d.Chains {
		w.chain(c)
	}
	for _, f := range d.Follows {
		w.put("follow", f.Sort, charset.Print(f.Set))
		w.end()
	}
	for _, r := range d.Rejects {
		w.put("reject", r.Sort, r.By)
		w.end()
	}
	for _, b := range d.Boxes {
		w.put("box", b.Cons, "=")
		w.items(b.Items)
		w.end()
	}
}

func (w *writer) named(key, name string) {
	if name != "" {
		w.put(key, name)
		w.end()
	}
}

func (w *writer) prod(p api.Prod) {
	if p.Lex {
		w.put("lex", p.Sort)
	} else {
		w.put("cf", p.Sort)
	}
	if p.Cons != "" {
		w.put(".", p.Cons)
	}
	w.put("=")
	for _, s := range p.Syms {
		w.sym(s)
	}
	if p.Bracket {
		w.put("bracket")
	}
	w.end()
}

func (w *writer) sym(s api.Sym) {
	switch {
	case s.Kind == api.SLit:
		w.put(quoted(s.Text))
	case s.Sep != "":
		w.put("{", s.Name, quoted(s.Sep), "}")
	case s.Name != "":
		w.put(s.Name)
	default:
		w.put(charset.Print(s.Set))
	}
	switch s.Kind {
	case api.SOpt:
		w.put("?")
	case api.SStar:
		w.put("*")
	case api.SPlus:
		w.put("+")
	}
}

func quoted(text string) string { return words.Quote([]byte(text)) }

func (w *writer) chain(c []api.Group) {
	w.put("prio")
	for i, g := range c {
		if i > 0 {
			w.put(">")
		}
		switch g.Assoc {
		case api.ALeft:
			w.put("left")
		case api.ARight:
			w.put("right")
		case api.ANon:
			w.put("non")
		}
		w.put(g.Cons...)
	}
	w.end()
}

func (w *writer) items(list []api.Item) {
	for _, i := range list {
		switch i.Kind {
		case api.BText:
			w.put(quoted(i.Text))
		case api.BHole:
			w.put(strconv.Itoa(i.N))
		case api.BLine:
			w.put("_")
		case api.BCut:
			w.put("/")
		case api.BNest:
			w.put("nest", strconv.Itoa(i.N))
			w.within(i.Items)
		case api.BGroup:
			w.put("group")
			w.within(i.Items)
		}
	}
}

func (w *writer) within(list []api.Item) {
	w.put("(")
	w.items(list)
	w.put(")")
}
