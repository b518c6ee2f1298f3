// Package defs is layer 3: definitions, read and written. See shared/doc/03-defs.md.
package defs

import (
	"tracery/api"
	"tracery/words"
)

// reader is the words that are still to be read, and what was said up to them. The last word is the end, and is never passed.
type reader struct {
	words []api.Word
	def   api.Def
}

// Parse reads a definition.
func Parse(text string) (d api.Def, f api.Fault) {
	list, fault := words.Scan(text)
	if fault.Code != api.OK {
		return api.Def{}, fault
	}
	defer func() {
		caught := recover()
		if caught == nil {
			return
		}
		given, ok := caught.(api.Fault)
		if !ok {
			// No reader gave this up: it is a fault of the program, not of the text.
			panic(caught)
		}
		d, f = api.Def{}, given
	}()
	r := &reader{words: list}
	r.statements()
	return r.def, api.Fault{}
}

// statements reads all there are, up to the end.
func (r *reader) statements() {
	begins := r.begins()
	for r.word().Kind != api.WEnd {
		read, ok := begins[r.word().Text]
		if !ok {
			r.fail(api.ErrWord)
		}
		read()
		r.want(";")
	}
}

// begins is what each key begins. What is read there starts at the key, where some faults have their place, and ends ahead of the `;`.
func (r *reader) begins() map[string]func() {
	return map[string]func(){
		"start":  func() { r.once(&r.def.Start) },
		"layout": func() { r.once(&r.def.Layout) },
		"lex":    r.lexical,
		"cf":     r.plain,
		"prio":   r.chain,
		"follow": func() {
			r.pass()
			f := api.Follow{Sort: r.name()}
			f.Set = r.set()
			r.def.Follows = append(r.def.Follows, f)
		},
		"reject": func() {
			r.pass()
			j := api.Reject{Sort: r.name()}
			j.By = r.name()
			r.def.Rejects = append(r.def.Rejects, j)
		},
		"box": r.box,
	}
}

// once reads a name that may be said one time. A name has bytes, so that an empty one was not said yet.
func (r *reader) once(name *string) {
	if *name != "" {
		r.fail(api.ErrTwice)
	}
	r.pass()
	*name = r.name()
}

func (r *reader) lexical() {
	r.room(len(r.def.Prods), api.MaxProds)
	r.pass()
	sort, cons := r.name(), ""
	if r.skip(".") {
		cons = r.name()
	}
	r.want("=")
	for {
		r.def.Prods = append(r.def.Prods, api.Prod{Lex: true, Sort: sort, Cons: cons, Syms: r.syms()})
		if !r.is("|") {
			return
		}
		r.room(len(r.def.Prods), api.MaxProds)
		r.pass()
	}
}

func (r *reader) plain() {
	r.room(len(r.def.Prods), api.MaxProds)
	r.pass()
	p := api.Prod{Sort: r.name()}
	if r.skip(".") {
		p.Cons = r.name()
	}
	r.want("=")
	p.Syms = r.syms()
	if p.Cons == "" {
		r.want("bracket")
		p.Bracket = true
	}
	r.def.Prods = append(r.def.Prods, p)
}

func (r *reader) chain() {
	r.pass()
	var chain []api.Group
	for {
		chain = append(chain, r.group(len(chain)))
		if !r.skip(">") {
			break
		}
	}
	r.def.Chains = append(r.def.Chains, chain)
}

// group reads the next group of a chain that has so many already.
func (r *reader) group(have int) api.Group {
	assoc := r.assoc()
	if assoc == api.ANone && r.word().Kind != api.WName {
		r.fail(api.ErrWord)
	}
	r.room(have, api.MaxGroups)
	if assoc != api.ANone {
		r.pass()
	}
	g := api.Group{Assoc: assoc, Cons: []string{r.name()}}
	for r.word().Kind == api.WName {
		r.room(len(g.Cons), api.MaxGroups)
		g.Cons = append(g.Cons, r.name())
	}
	return g
}

// assoc is what the next word says of a group; it is not passed.
func (r *reader) assoc() int {
	switch r.word().Text {
	case "left":
		return api.ALeft
	case "right":
		return api.ARight
	case "non":
		return api.ANon
	}
	return api.ANone
}
