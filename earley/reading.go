package earley

import (
	"slices"

	"tracery/api"
	"tracery/charset"
	"tracery/facts"
)

// spot is a rule with the point ahead of symbol dot.
type spot struct{ rule, dot int }

// row is all items of a set that have one spot.
type row struct {
	spot spot
	from places
	also int // one more than the number of another row that waits for the same nonterminal; 0: there is none
}

// set is the items of a place.
type set struct {
	rows  []row
	waits map[int]int // of a nonterminal: one more than the number of a row whose next symbol it is
}

// work is a set that is being filled.
type work struct {
	met   map[spot]int // one more than the number of a spot's row
	rows  []row
	fresh []places // of each row: the places of those of its items that are still to be done
	todo  []int    // rows with such places
}

// reading is a text on its way through a grammar.
type reading struct {
	gram  api.Gram
	text  []byte
	rules [][]int  // of each nonterminal
	empty []bool   // of each nonterminal: is it nullable?
	begun []int    // of each nonterminal: one more than the last place where it was begun
	ended []places // of each nonterminal: from where it reaches to the place that was filled last
	sets  []set
	works [2]work // of even and of odd places: no more than two sets are being filled at a time
}

// newReading has sets without items; the grammar is right, the text not too long.
func newReading(g api.Gram, w []byte) *reading {
	r := &reading{gram: g, text: w, rules: make([][]int, g.Nts), begun: make([]int, g.Nts), ended: make([]places, g.Nts), sets: make([]set, len(w)+1)}
	r.empty, _ = facts.Nullable(g)
	for place, rule := range g.Rules {
		r.rules[rule.Lhs] = append(r.rules[rule.Lhs], place)
	}
	for i := range r.works {
		r.works[i].met = map[spot]int{}
	}
	return r
}

// readAll fills all sets, from Start on.
func readAll(g api.Gram, w []byte) *reading {
	r := newReading(g, w)
	r.begin(0, g.Start)
	for at := range r.sets {
		r.fill(at)
	}
	return r
}

// begin puts a nonterminal's rules into a set.
func (r *reading) begin(at, nt int) {
	if r.begun[nt] == at+1 {
		return
	}
	r.begun[nt] = at + 1
	here := onePlace(at)
	for _, rule := range r.rules[nt] {
		r.add(at, spot{rule: rule}, &here)
	}
}

// add puts the items of a spot and these places into a set.
func (r *reading) add(at int, sp spot, from *places) {
	k := &r.works[at%2]
	number := k.met[sp] - 1
	if number < 0 {
		number = len(k.rows)
		k.met[sp] = number + 1
		k.rows = append(k.rows, row{spot: sp})
		k.fresh = append(k.fresh, places{})
	}
	fresh := k.rows[number].from.add(from)
	if fresh == (places{}) {
		return
	}
	if k.fresh[number] == (places{}) {
		k.todo = append(k.todo, number)
	}
	k.fresh[number].add(&fresh)
}

// next is the symbol behind the point; false, if all symbols are ahead of it.
func (r *reading) next(sp spot) (api.KSym, bool) {
	rhs := r.gram.Rules[sp.rule].Rhs
	if sp.dot == len(rhs) {
		return api.KSym{}, false
	}
	return rhs[sp.dot], true
}

// fill does all that is to be done in a set; those ahead of it are full.
func (r *reading) fill(at int) {
	clear(r.ended)
	k := &r.works[at%2]
	for i := 0; i < len(k.todo); i++ {
		number := k.todo[i]
		from := k.fresh[number]
		k.fresh[number] = places{}
		r.step(at, k.rows[number].spot, &from)
	}
	r.sets[at] = r.full(k.rows)
	clear(k.met)
	k.rows, k.fresh, k.todo = k.rows[:0], k.fresh[:0], k.todo[:0]
}

// full is a set of these rows.
func (r *reading) full(rows []row) set {
	s := set{rows: slices.Clone(rows), waits: map[int]int{}}
	for i, row := range rows {
		if sym, more := r.next(row.spot); more && sym.Nt >= 0 {
			s.rows[i].also = s.waits[sym.Nt]
			s.waits[sym.Nt] = i + 1
		}
	}
	return s
}

// step does what the items of a spot and these places lead to.
func (r *reading) step(at int, sp spot, from *places) {
	sym, more := r.next(sp)
	behind := spot{sp.rule, sp.dot + 1}
	switch {
	case !more:
		r.end(at, r.gram.Rules[sp.rule].Lhs, from)
	case sym.Nt >= 0:
		r.begin(at, sym.Nt)
		if r.empty[sym.Nt] {
			r.add(at, behind, from)
		}
	case at < len(r.text) && charset.Has(sym.Set, r.text[at]):
		r.add(at+1, behind, from)
	}
}

// end moves what waits for a nonterminal at one of these places, once for each of them.
func (r *reading) end(at, nt int, from *places) {
	fresh := r.ended[nt].add(from)
	for begin := range fresh.all() {
		if begin == at {
			continue // it is nullable: step moves all that waits for it here, and what comes to wait later too
		}
		s := &r.sets[begin]
		for number := s.waits[nt]; number > 0; number = s.rows[number-1].also {
			waiting := &s.rows[number-1]
			r.add(at, spot{waiting.spot.rule, waiting.spot.dot + 1}, &waiting.from)
		}
	}
}
