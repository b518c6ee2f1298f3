package layout

import (
	"tracery/api"
)

// thing is what is to be written: a leaf, or the beginning of a group.
type thing interface {
	// flat is what it writes in a flat group.
	flat() string
	// put writes it where no group is flat.
	put(p *page)
	// from is what is so from it on, told of what is so behind it.
	from(behind stretch) stretch
}

// stretch is what is so of all things from one on, up to the end.
type stretch struct {
	bytes int // of all their flat texts
	near  int // of the DText up to the next DLine or DHard, or the end
	hards int // how many DHard there are
}

// text is a DText.
type text string

func (t text) flat() string { return string(t) }

func (t text) put(p *page) { p.write(string(t)) }

func (t text) from(behind stretch) stretch {
	behind.bytes += len(t)
	behind.near += len(t)
	return behind
}

// line is a DLine.
type line struct {
	text   string
	indent int
}

func (l line) flat() string { return l.text }

func (l line) put(p *page) { p.breakLine(l.indent) }

func (l line) from(behind stretch) stretch {
	behind.bytes += len(l.text)
	behind.near = 0
	return behind
}

// hard is a DHard.
type hard struct{ indent int }

func (h hard) flat() string { return "" } // no flat group has one

func (h hard) put(p *page) { p.breakLine(h.indent) }

func (h hard) from(behind stretch) stretch {
	behind.near = 0
	behind.hards++
	return behind
}

// group is the beginning of a DGroup of so many things.
type group struct{ things int }

func (g group) flat() string { return "" }

func (g group) put(p *page) { p.open(g.things) }

func (g group) from(behind stretch) stretch { return behind }

// thingsOf is the things of a right document, in their order.
func thingsOf(d api.Doc) []thing {
	var list []thing
	var add func(d api.Doc, indent int) // it calls itself no deeper than MaxNest
	add = func(d api.Doc, indent int) {
		at := len(list)
		switch d.Kind {
		case api.DText:
			list = append(list, text(d.Text))
		case api.DLine:
			list = append(list, line{d.Text, indent})
		case api.DHard:
			list = append(list, hard{indent})
		case api.DGroup:
			list = append(list, group{})
		}
		for _, kid := range d.Kids {
			add(kid, indent+d.N)
		}
		if d.Kind == api.DGroup {
			list[at] = group{len(list) - at - 1}
		}
	}
	add(d, 0)
	return list
}
