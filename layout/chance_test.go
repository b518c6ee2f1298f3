package layout

import (
	"math"
	"math/rand"
	"reflect"
	"slices"
	"strings"
	"testing"

	"tracery/api"
)

// anyDoc is a right document by chance, its lines of blanks alone if that is asked.
func anyDoc(r *rand.Rand, deep int, blank bool) api.Doc {
	kind := 1 + r.Intn(6)
	if deep > 1 && r.Intn(2) == 0 {
		kind = 4 + r.Intn(3)
	}
	d := api.Doc{Kind: kind}
	switch kind {
	case api.DText:
		d.Text = []string{"", "a", "bc", "def", " ", "x y", "ghijk"}[r.Intn(7)]
	case api.DLine:
		d.Text = []string{"", " ", " ", "  ", "-", "or"}[r.Intn(6)]
		if blank {
			d.Text = strings.Repeat(" ", len(d.Text))
		}
	case api.DHard:
		if r.Intn(3) > 0 {
			return lin(" ")
		}
	case api.DNest:
		d.N = r.Intn(5)
	}
	if kind >= api.DNest && deep > 1 {
		for range r.Intn(5) {
			d.Kids = append(d.Kids, anyDoc(r, deep-1, blank))
		}
	}
	return d
}

// slowLeaves is a document's leaves.
func slowLeaves(d api.Doc) []api.Doc {
	var list []api.Doc
	if d.Kind >= api.DText && d.Kind <= api.DHard {
		list = append(list, api.Doc{Kind: d.Kind, Text: d.Text, N: d.N})
	}
	for _, kid := range d.Kids {
		list = append(list, slowLeaves(kid)...)
	}
	return list
}

func isHard(d api.Doc) bool { return d.Kind == api.DHard }

func slowFlat(leaves []api.Doc) string {
	text := ""
	for _, leaf := range leaves {
		text += leaf.Text
	}
	return text
}

// slowPage is the chapter's words of laying out.
type slowPage struct {
	leaves        []api.Doc // those that are still to come
	width         int
	text          string
	broken, lines int // how many groups are broken, and how many DLine
}

func slowRender(d api.Doc, width int) *slowPage {
	p := &slowPage{leaves: slowLeaves(d), width: max(width, 0)}
	p.lay(d, 0, false)
	return p
}

func (p *slowPage) lay(d api.Doc, indent int, flat bool) {
	if d.Kind <= api.DHard {
		p.leaves = p.leaves[1:]
	}
	switch {
	case d.Kind == api.DText || d.Kind == api.DLine && flat:
		p.text += d.Text
	case d.Kind == api.DLine || d.Kind == api.DHard:
		p.text += "\n" + strings.Repeat(" ", indent)
		if d.Kind == api.DLine {
			p.lines++
		}
	case d.Kind == api.DGroup && !flat:
		if flat = p.fits(slowLeaves(d)); !flat {
			p.broken++
		}
	}
	for _, kid := range d.Kids {
		p.lay(kid, indent+d.N, flat)
	}
}

// fits tells whether a group of these leaves, which are the next ones, is flat.
func (p *slowPage) fits(own []api.Doc) bool {
	bytes := len(p.text) - 1 - strings.LastIndex(p.text, "\n")
	bytes += len(slowFlat(own))
	for _, leaf := range p.leaves[len(own):] {
		if leaf.Kind != api.DText {
			break
		}
		bytes += len(leaf.Text)
	}
	return !slices.ContainsFunc(own, isHard) && bytes <= p.width
}

// chanceWidth is mostly a width in which some groups are broken and some are not.
func chanceWidth(r *rand.Rand) int {
	switch r.Intn(12) {
	case 0:
		return []int{math.MinInt, -1, math.MaxInt, math.MaxInt - 1}[r.Intn(4)]
	case 1:
		return 200 + r.Intn(200)
	}
	return r.Intn(30)
}

// P14.1, P14.2 and P14.5 of documents by chance.
func TestByWords(t *testing.T) {
	r := rand.New(rand.NewSource(14))
	count := map[bool]int{}
	for range 40000 {
		d := anyDoc(r, 1+r.Intn(6), false)
		leaves := slowLeaves(d)
		hards := 0
		for _, leaf := range leaves {
			if isHard(leaf) {
				hards++
			}
		}
		if have := Leaves(d); !Right(d) || len(have) != len(leaves) || len(have) > 0 && !reflect.DeepEqual(have, leaves) {
			t.Fatalf("%s: %v", told(d), have)
		}
		text, code := Flat(d)
		if hards > 0 && (text != "" || code != api.ErrNone) || hards == 0 && (text != slowFlat(leaves) || code != api.OK) {
			t.Fatalf("%s: %q %d", told(d), text, code)
		}
		width := chanceWidth(r)
		want := slowRender(d, width)
		text, code = Render(d, width)
		if text != want.text || code != api.OK {
			t.Fatalf("%s in %d: %q %d, not %q", told(d), width, text, code, want.text)
		}
		if n, code := Broken(d, width); n != want.broken || code != api.OK {
			t.Fatalf("%s in %d: %d %d, not %d", told(d), width, n, code, want.broken)
		}
		if strings.Count(text, "\n") != want.lines+hards {
			t.Fatalf("%s in %d: %q has not %d breaks", told(d), width, text, want.lines+hards)
		}
		count[want.broken > 0]++
	}
	if count[true] < 5000 || count[false] < 5000 {
		t.Error(count)
	}
}

// P14.1: documents of any fields.
func TestWild(t *testing.T) {
	r := rand.New(rand.NewSource(141))
	var wild func(deep int) api.Doc
	wild = func(deep int) api.Doc {
		d := anyDoc(r, deep, false)
		if r.Intn(9) == 0 {
			d.Kind = r.Intn(9) - 1
		}
		if r.Intn(30) == 0 {
			d.Text = []string{"", "a", "a\n"}[r.Intn(3)]
		}
		if r.Intn(30) == 0 {
			d.N = []int{-1, 0, 7, 1000, 1001}[r.Intn(5)]
		}
		for i := range d.Kids {
			d.Kids[i] = wild(deep - 1)
		}
		return d
	}
	var right func(d api.Doc) bool
	right = func(d api.Doc) bool {
		own := api.Doc{Kind: d.Kind}
		switch d.Kind {
		case api.DText, api.DLine:
			own.Text = strings.ReplaceAll(d.Text, "\n", "")
		case api.DHard:
		case api.DNest:
			own.N, own.Kids = min(max(d.N, 0), 1000), d.Kids
		case api.DGroup, api.DCat:
			own.Kids = d.Kids
		default:
			return false
		}
		return told(own) == told(d) && !slices.ContainsFunc(d.Kids, func(kid api.Doc) bool { return !right(kid) })
	}
	count := map[bool]int{}
	for range 20000 {
		d := wild(1 + r.Intn(4))
		if Right(d) != right(d) {
			t.Fatalf("%s: %v", told(d), Right(d))
		}
		if have, want := Leaves(d), slowLeaves(d); len(have) != len(want) || len(have) > 0 && !reflect.DeepEqual(have, want) {
			t.Fatalf("%s: %v", told(d), have)
		}
		answersDoc(t, d, right(d))
		count[right(d)]++
	}
	if count[true] < 2000 || count[false] < 2000 {
		t.Error(count)
	}
}

// P14.3: a group without DHard, in a width that is not below its flat text's length.
func TestFlatGroups(t *testing.T) {
	r := rand.New(rand.NewSource(143))
	count := 0
	for range 20000 {
		d := grp(anyDoc(r, 1+r.Intn(5), false), anyDoc(r, 1+r.Intn(5), false))
		flat, code := Flat(d)
		if code != api.OK {
			continue
		}
		count++
		for _, width := range []int{len(flat), len(flat) + 1, len(flat) + r.Intn(99), math.MaxInt} {
			text, a := Render(d, width)
			if n, b := Broken(d, width); text != flat || n != 0 || a != api.OK || b != api.OK {
				t.Fatalf("%s in %d: %q %d, %d %d", told(d), width, text, a, n, b)
			}
		}
		if n, code := Broken(d, len(flat)-1); len(flat) > 0 && n == 0 || code != api.OK {
			t.Fatalf("%s in %d: %d %d", told(d), len(flat)-1, n, code)
		}
	}
	if count < 2000 {
		t.Error(count)
	}
}

// noBlanks is a text without bytes 10 and 32.
func noBlanks(s string) string { return strings.NewReplacer("\n", "", " ", "").Replace(s) }

// P14.4: but for bytes 10 and 32 the same is written in each width.
func TestNoBlanks(t *testing.T) {
	r := rand.New(rand.NewSource(144))
	for range 10000 {
		d := anyDoc(r, 1+r.Intn(6), true)
		want := noBlanks(slowFlat(slowLeaves(d)))
		for range 3 {
			width := chanceWidth(r)
			if text, code := Render(d, width); noBlanks(text) != want || code != api.OK {
				t.Fatalf("%s in %d: %q %d", told(d), width, text, code)
			}
		}
	}
}

// changed is a document in which a call has made something else of each part.
func changed(d api.Doc, change func(d api.Doc) api.Doc) api.Doc {
	d.Kids = slices.Clone(d.Kids)
	for i, kid := range d.Kids {
		d.Kids[i] = changed(kid, change)
	}
	return change(d)
}

// P14.6: DCat in DCat, DCat of one, groups of a text.
func TestCats(t *testing.T) {
	r := rand.New(rand.NewSource(146))
	for range 10000 {
		d := anyDoc(r, 1+r.Intn(6), false)
		width := chanceWidth(r)
		want, _ := Render(d, width)
		broken, _ := Broken(d, width)
		inCats := changed(d, func(d api.Doc) api.Doc {
			if r.Intn(3) == 0 {
				return cat(d)
			}
			if d.Kind == api.DCat && len(d.Kids) > 1 {
				at := r.Intn(len(d.Kids))
				return cat(cat(d.Kids[:at]...), cat(), cat(cat(d.Kids[at:]...)))
			}
			return d
		})
		noCats := changed(d, func(d api.Doc) api.Doc {
			var kids []api.Doc
			for _, kid := range d.Kids {
				if kid.Kind == api.DCat {
					kids = append(kids, kid.Kids...)
				} else {
					kids = append(kids, kid)
				}
			}
			d.Kids = kids
			return d
		})
		for _, other := range []api.Doc{inCats, noCats, cat(d), cat(cat(cat(d)))} {
			text, a := Render(other, width)
			if n, b := Broken(other, width); text != want || n != broken || a != api.OK || b != api.OK {
				t.Fatalf("%s in %d: %q %d, %d %d, not %q, %d", told(other), width, text, a, n, b, want, broken)
			}
		}
		grouped := changed(d, func(d api.Doc) api.Doc {
			if d.Kind == api.DText {
				return grp(d)
			}
			return d
		})
		if text, code := Render(grouped, width); text != want || code != api.OK {
			t.Fatalf("%s in %d: %q %d, not %q", told(grouped), width, text, code, want)
		}
	}
}

// P14.7: a document that is nested deeper.
func TestDeeper(t *testing.T) {
	r := rand.New(rand.NewSource(147))
	for range 10000 {
		d := anyDoc(r, 1+r.Intn(6), false)
		n := r.Intn(9)
		deeper := func(text string) string { return strings.ReplaceAll(text, "\n", "\n"+strings.Repeat(" ", n)) }
		// all groups that can be are flat in both
		plain, _ := Render(d, math.MaxInt)
		if text, code := Render(in(n, d), math.MaxInt); text != deeper(plain) || code != api.OK {
			t.Fatalf("%s: %q %d, not %q", told(d), text, code, deeper(plain))
		}
		// all groups begin behind a break, where the column is as much greater as the width is
		d = cat(hrd(), d)
		width := r.Intn(30)
		plain, _ = Render(d, width)
		broken, _ := Broken(d, width)
		text, a := Render(in(n, d), width+n)
		if m, b := Broken(in(n, d), width+n); text != deeper(plain) || m != broken || a != api.OK || b != api.OK {
			t.Fatalf("%s in %d: %q %d, not %q", told(d), width, text, a, deeper(plain))
		}
		split := in(n/2, in(n-n/2, d)) // nested in parts it is nested as a whole
		if text, _ := Render(split, width+n); text != deeper(plain) {
			t.Fatalf("%s in %d: %q", told(split), width, text)
		}
	}
}
