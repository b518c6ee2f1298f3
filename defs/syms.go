package defs

import (
	"tracery/api"
)

// syms reads the symbols of one production.
func (r *reader) syms() []api.Sym {
	list := []api.Sym{r.sym()}
	for r.atSym() {
		r.room(len(list), api.MaxSyms)
		list = append(list, r.sym())
	}
	return list
}

// atSym tells whether a symbol can begin with the next word.
func (r *reader) atSym() bool {
	switch r.word().Kind {
	case api.WText, api.WName, api.WSet:
		return true
	}
	return r.is("{")
}

func (r *reader) sym() api.Sym {
	switch r.word().Kind {
	case api.WText:
		return api.Sym{Kind: api.SLit, Text: r.text()}
	case api.WName:
		return r.often(api.Sym{Kind: api.SSort, Name: r.name()})
	case api.WSet:
		return r.often(api.Sym{Kind: api.SSet, Set: r.set()})
	}
	return r.braces()
}

func (r *reader) braces() api.Sym {
	r.want("{")
	s := api.Sym{Name: r.name()}
	if w := r.word(); w.Kind == api.WText && len(w.Bytes) == 0 {
		r.fail(api.ErrWord)
	}
	s.Sep = r.text()
	r.want("}")
	if !r.is("*") && !r.is("+") {
		r.fail(api.ErrWord)
	}
	return r.often(s)
}

// often is a symbol with the kind that the sign behind it says; without a sign it stays as it is.
func (r *reader) often(s api.Sym) api.Sym {
	switch {
	case r.skip("?"):
		s.Kind = api.SOpt
	case r.skip("*"):
		s.Kind = api.SStar
	case r.skip("+"):
		s.Kind = api.SPlus
	}
	return s
}
