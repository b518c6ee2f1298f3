package layout

import (
	"slices"
	"strings"

	"tracery/api"
)

// page is what was written, and what is still to be written.
type page struct {
	width   int
	text    []byte
	column  int
	broken  int
	tooLong bool
	rest    []thing
	from    []stretch // of each thing of rest what is so from it on, and of the end
}

func newPage(things []thing, width int) *page {
	from := make([]stretch, len(things)+1)
	for i, t := range slices.Backward(things) {
		from[i] = t.from(from[i+1])
	}
	return &page{width: width, rest: things, from: from}
}

// fill writes all that is to be written; it tells whether that is not too long.
func (p *page) fill() bool {
	for len(p.rest) > 0 && !p.tooLong {
		p.cut(1)[0].put(p)
	}
	return !p.tooLong
}

// cut takes so many things off what is still to be written. There is no room behind them: the others lie there.
func (p *page) cut(n int) []thing {
	things := p.rest[:n:n]
	p.rest, p.from = p.rest[n:], p.from[n:]
	return things
}

// open writes the next so many things, which are a group's, if that is flat; a broken one's things are written one by one as they come.
func (p *page) open(n int) {
	inside, behind := p.from[0], p.from[n]
	if inside.hards > behind.hards || inside.bytes-behind.bytes+behind.near > p.width-p.column {
		p.broken++
		return
	}
	for _, t := range p.cut(n) {
		p.write(t.flat())
	}
}

// write writes bytes, none of them 10, unless a text has no room for them.
func (p *page) write(text string) {
	if len(text) > api.MaxText-len(p.text) {
		p.tooLong = true
		return
	}
	p.text = append(p.text, text...)
	p.column += len(text)
}

// breakLine begins a new line.
func (p *page) breakLine(indent int) {
	p.write("\n" + strings.Repeat(" ", indent))
	p.column = indent
}
