package facts

import (
	"math/rand"
	"reflect"
	"slices"
	"strings"
	"testing"

	"tracery/api"
	"tracery/charset"
)

// anyGram is a grammar of a few nonterminals and short rules.
func anyGram(r *rand.Rand) api.Gram {
	g := api.Gram{Nts: 1 + r.Intn(5)}
	g.Start = r.Intn(g.Nts)
	for range r.Intn(10) {
		g.Rules = append(g.Rules, anyRule(r, g.Nts))
	}
	return g
}

func anyRule(r *rand.Rand, nts int) api.Rule {
	rule := api.Rule{Lhs: r.Intn(nts)}
	for range r.Intn(4) {
		s := api.KSym{Nt: r.Intn(nts)}
		if r.Intn(5) < 2 {
			s = api.KSym{Nt: -1}
			for range r.Intn(3) {
				s.Set = charset.Union(s.Set, charset.Of("abc"[r.Intn(3)]))
			}
		}
		rule.Rhs = append(rule.Rhs, s)
	}
	return rule
}

const longest = 4

// texts is, of each nonterminal, the texts of at most so many bytes that it derives, found by putting together all that was found before till nothing is new.
func texts(g api.Gram) []map[string]int {
	have := make([]map[string]int, g.Nts)
	for nt := range have {
		have[nt] = map[string]int{}
	}
	for grown := true; grown; {
		grown = false
		for _, rule := range g.Rules {
			for _, text := range rowTexts(have, rule.Rhs) {
				if have[rule.Lhs][text] == 0 {
					have[rule.Lhs][text] = 1
					grown = true
				}
			}
		}
	}
	return have
}

func rowTexts(have []map[string]int, rhs []api.KSym) []string {
	row := []string{""}
	for _, s := range rhs {
		var part []string
		if s.Nt >= 0 {
			for text := range have[s.Nt] {
				part = append(part, text)
			}
		} else {
			for b := range charset.All(s.Set) {
				part = append(part, string([]byte{b}))
			}
		}
		next := map[string]int{}
		for _, a := range row {
			for _, b := range part {
				if len(a)+len(b) <= longest {
					next[a+b]++
				}
			}
		}
		row = row[:0:0]
		for text := range next {
			row = append(row, text)
		}
	}
	return row
}

// far is more than any shortest text that these grammars have.
const far = 1 << 40

// lengthsByRounds is the bytes of the shortest texts, far where there is none, found by looking at all rules again and again.
func lengthsByRounds(g api.Gram) []int {
	short := slices.Repeat([]int{far}, g.Nts)
	for range g.Nts + 1 {
		for _, rule := range g.Rules {
			n := 0
			for _, s := range rule.Rhs {
				switch {
				case s.Nt >= 0:
					n += short[s.Nt]
				case s.Set == api.Set{}:
					n += far
				default:
					n++
				}
			}
			short[rule.Lhs] = min(short[rule.Lhs], n)
		}
	}
	return short
}

// closed is where steps lead to, over one or several.
func closed(nts int, steps func(from, to int) bool) [][]bool {
	way := make([][]bool, nts)
	for i := range way {
		way[i] = make([]bool, nts)
		for j := range way[i] {
			way[i][j] = steps(i, j)
		}
	}
	for m := range nts {
		for i := range nts {
			for j := range nts {
				way[i][j] = way[i][j] || way[i][m] && way[m][j]
			}
		}
	}
	return way
}

// isEmptyText tells whether a symbol derives the empty text.
func isEmptyText(short []int, s api.KSym) bool { return s.Nt >= 0 && short[s.Nt] == 0 }

func slowCyclic(g api.Gram, short []int) bool {
	way := closed(g.Nts, func(from, to int) bool {
		for _, rule := range g.Rules {
			for i, s := range rule.Rhs {
				if rule.Lhs != from || s.Nt != to {
					continue
				}
				others := append(slices.Clone(rule.Rhs[:i]), rule.Rhs[i+1:]...)
				if !slices.ContainsFunc(others, func(o api.KSym) bool { return !isEmptyText(short, o) }) {
					return true
				}
			}
		}
		return false
	})
	for nt := range way {
		if way[nt][nt] {
			return true
		}
	}
	return false
}

func slowReach(g api.Gram) []bool {
	way := closed(g.Nts, func(from, to int) bool {
		return slices.ContainsFunc(g.Rules, func(rule api.Rule) bool {
			return rule.Lhs == from && slices.ContainsFunc(rule.Rhs, func(s api.KSym) bool { return s.Nt == to })
		})
	})
	reached := way[g.Start]
	reached[g.Start] = true
	return reached
}

func slowFirst(g api.Gram, short []int) []string {
	sets := make([]api.Set, g.Nts)
	for range g.Nts {
		for _, rule := range g.Rules {
			for i, s := range rule.Rhs {
				if slices.ContainsFunc(rule.Rhs[:i], func(o api.KSym) bool { return !isEmptyText(short, o) }) {
					break
				}
				give := s.Set
				if s.Nt >= 0 {
					give = sets[s.Nt]
				}
				sets[rule.Lhs] = charset.Union(sets[rule.Lhs], give)
			}
		}
	}
	var list []string
	for _, s := range sets {
		list = append(list, charset.Print(s))
	}
	return list
}

// slowTell is what the document's words come to.
func slowTell(g api.Gram) told {
	short := lengthsByRounds(g)
	want := told{reach: bits(slowReach(g)), first: slowFirst(g, short), cyclic: slowCyclic(g, short)}
	for _, n := range short {
		want.nullable += bits([]bool{n == 0})
		want.productive += bits([]bool{n < far})
		if n >= far {
			n = -1
		}
		want.shortest = append(want.shortest, min(n, api.MaxInput+1))
	}
	for r, rule := range g.Rules {
		if !slices.ContainsFunc(rule.Rhs, func(s api.KSym) bool { return s.Nt >= 0 && short[s.Nt] >= far || s.Nt < 0 && s.Set == api.Set{} }) {
			want.trim = append(want.trim, r)
		}
	}
	return want
}

func TestBySlowWays(t *testing.T) {
	r := rand.New(rand.NewSource(6))
	loops := 0
	for range 30000 {
		g := anyGram(r)
		have, want := tell(t, g), slowTell(g)
		if !have.same(want) {
			t.Fatalf("%+v:\n%+v\n, not\n%+v", g, have, want)
		}
		if have.cyclic {
			loops++
		}
	}
	if loops < 3000 || loops > 27000 {
		t.Errorf("%d of 30000 are cyclic", loops)
	}
}

// What is told is so of the texts that are derived (P6.4 too).
func TestByTexts(t *testing.T) {
	r := rand.New(rand.NewSource(7))
	for range 2000 {
		g := anyGram(r)
		told := tell(t, g)
		sets, _ := First(g)
		for nt, all := range texts(g) {
			short := longest + 1
			for text := range all {
				short = min(short, len(text))
				if text != "" && !charset.Has(sets[nt], text[0]) {
					t.Fatalf("%+v: %q is no first byte of %d", g, text[0], nt)
				}
			}
			if (told.nullable[nt] == '1') != (short == 0) || (told.nullable[nt] == '1') != (told.shortest[nt] == 0) {
				t.Fatalf("%+v: %d is nullable: %c", g, nt, told.nullable[nt])
			}
			if (told.productive[nt] == '1') != (told.shortest[nt] >= 0) || short <= longest && told.productive[nt] != '1' {
				t.Fatalf("%+v: %d is productive: %c", g, nt, told.productive[nt])
			}
			if short <= longest && told.shortest[nt] != short || short > longest && 0 <= told.shortest[nt] && told.shortest[nt] <= longest {
				t.Fatalf("%+v: shortest of %d: %d", g, nt, told.shortest[nt])
			}
		}
	}
}

// P6.5: with the productive rules alone the same is nullable, productive, and as short.
func TestTrimmed(t *testing.T) {
	r := rand.New(rand.NewSource(8))
	fewer := 0
	for range 5000 {
		g := anyGram(r)
		before := tell(t, g)
		less := api.Gram{Nts: g.Nts, Start: g.Start}
		for _, place := range before.trim {
			less.Rules = append(less.Rules, g.Rules[place])
		}
		after := tell(t, less)
		if after.nullable != before.nullable || after.productive != before.productive || !slices.Equal(after.shortest, before.shortest) || len(after.trim) != len(less.Rules) {
			t.Fatalf("%+v:\n%+v\n, trimmed\n%+v", g, before, after)
		}
		if len(less.Rules) < len(g.Rules) {
			fewer++
		}
	}
	if fewer < 1000 {
		t.Errorf("only %d have rules that are not productive", fewer)
	}
}

// within tells whether all that is so in a is so in b.
func within(a, b string) bool {
	for i := range a {
		if a[i] == '1' && b[i] != '1' {
			return false
		}
	}
	return true
}

// P6.6: a rule more takes nothing away.
func TestOneRuleMore(t *testing.T) {
	r := rand.New(rand.NewSource(9))
	for range 5000 {
		g := anyGram(r)
		more := g
		more.Rules = append(slices.Clone(g.Rules), anyRule(r, g.Nts))
		a, b := tell(t, g), tell(t, more)
		if !within(a.nullable, b.nullable) || !within(a.productive, b.productive) || !within(a.reach, b.reach) {
			t.Fatalf("%+v:\n%+v\n, with one more\n%+v", more, a, b)
		}
		firstA, _ := First(g)
		firstB, _ := First(more)
		for nt := range g.Nts {
			if !charset.Within(firstA[nt], firstB[nt]) || a.shortest[nt] >= 0 && (b.shortest[nt] < 0 || b.shortest[nt] > a.shortest[nt]) {
				t.Fatalf("%+v: of %d\n%+v\n, with one more\n%+v", more, nt, a, b)
			}
		}
	}
}

// P6.7: the order of rules is of no matter.
func TestOrderOfRules(t *testing.T) {
	r := rand.New(rand.NewSource(10))
	for range 5000 {
		g := anyGram(r)
		other := g
		other.Rules = slices.Clone(g.Rules)
		places := r.Perm(len(g.Rules))
		for i, p := range places {
			other.Rules[p] = g.Rules[i]
		}
		a, b := tell(t, g), tell(t, other)
		var moved []int
		for _, p := range a.trim {
			moved = append(moved, places[p])
		}
		slices.Sort(moved)
		a.trim = moved
		if !a.same(b) || Size(g) != Size(other) {
			t.Fatalf("%+v:\n%+v\n, in another order\n%+v", g, a, b)
		}
	}
}

// wild fills a value by chance, with little care for what is right.
func wild(v reflect.Value, r *rand.Rand) {
	switch v.Kind() {
	case reflect.Int:
		v.SetInt(int64(r.Intn(5) - 1))
	case reflect.Uint64:
		v.SetUint(uint64(r.Intn(8)) / 7)
	case reflect.Struct:
		for i := range v.NumField() {
			wild(v.Field(i), r)
		}
	case reflect.Array:
		for i := range v.Len() {
			wild(v.Index(i), r)
		}
	case reflect.Slice:
		v.Set(reflect.MakeSlice(v.Type(), r.Intn(4), 6))
		for i := range v.Len() {
			wild(v.Index(i), r)
		}
	}
}

// Hand-made grammars are told, or refused.
func TestHandMade(t *testing.T) {
	r := rand.New(rand.NewSource(11))
	count := map[bool]int{}
	for range 30000 {
		var g, before api.Gram
		seed := r.Int63()
		wild(reflect.ValueOf(&g).Elem(), rand.New(rand.NewSource(seed)))
		wild(reflect.ValueOf(&before).Elem(), rand.New(rand.NewSource(seed)))
		right := isRight(g)
		count[right]++
		if right {
			if have, want := tell(t, g), slowTell(g); !have.same(want) {
				t.Fatalf("%+v:\n%+v\n, not\n%+v", g, have, want)
			}
		} else if !refused(g) {
			t.Fatalf("%+v is not refused", g)
		}
		size := len(g.Rules)
		for _, rule := range g.Rules {
			size += len(rule.Rhs)
		}
		if Size(g) != size || !reflect.DeepEqual(g, before) {
			t.Fatalf("%+v: Size = %d", g, Size(g))
		}
	}
	if count[true] < 1000 || count[false] < 1000 {
		t.Errorf("%v", count)
	}
}

// isRight is the document's words of small grammars, said by texts: each nonterminal's number has a sign, and so has a byte without a nonterminal.
func isRight(g api.Gram) bool {
	if g.Nts < 1 || g.Start < 0 || g.Start >= g.Nts {
		return false
	}
	signs := "0123456789"[:g.Nts]
	wrong := 0
	for _, rule := range g.Rules {
		wrong += notOne(signs, rule.Lhs)
		for _, s := range rule.Rhs {
			if s.Nt != -1 {
				wrong += notOne(signs, s.Nt) + charset.Size(s.Set)
			}
		}
	}
	return wrong == 0
}

func notOne(signs string, nt int) int {
	if nt >= 0 && nt < 10 && strings.IndexByte(signs, byte('0'+nt)) >= 0 {
		return 0
	}
	return 1
}
