package kernel

import (
	"reflect"
	"slices"
	"strconv"
	"strings"
	"testing"

	"tracery/api"
	"tracery/charset"
	"tracery/defs"
	"tracery/facts"
)

// allOfIt is a definition with something in each list.
const allOfIt = `start E; layout W; cf E.Add = E "+" E; cf E.List = "[" {E ","}* N? "]"; cf E.Num = N; lex N = [0-9]+; lex K = "7"; lex W = " ";
	prio left Add > Num List; prio non List; follow N [0-9]; follow E [x]; reject N K; box Add = group ( 1 nest 2 ( _ "+" / 2 ) ); box Num = 1;`

// piece is the memory of a list, up to its capacity; it holds the list, since memory that nobody
// holds is given to another list.
type piece struct {
	from, to uintptr
	held     reflect.Value
}

// pieces is the memory of all lists in a value.
func pieces(v reflect.Value) []piece {
	var list []piece
	switch v.Kind() {
	case reflect.Struct:
		for i := range v.NumField() {
			list = append(list, pieces(v.Field(i))...)
		}
	case reflect.Slice:
		if v.Cap() > 0 {
			list = append(list, piece{v.Pointer(), v.Pointer() + uintptr(v.Cap())*v.Type().Elem().Size(), v})
		}
		for i := range v.Len() {
			list = append(list, pieces(v.Index(i))...)
		}
	}
	return list
}

// No two lists of an answer share memory, and none shares any with the argument.
func TestNewMemory(t *testing.T) {
	d := must(t, allOfIt)
	k, e := Make(d)
	if e != api.OK {
		t.Fatal(e)
	}
	list := append(pieces(reflect.ValueOf(k)), pieces(reflect.ValueOf(d))...)
	slices.SortFunc(list, func(a, b piece) int { return int(a.from) - int(b.from) })
	for i := range list[1:] {
		if list[i].to > list[i+1].from {
			t.Errorf("lists share memory: %v %v", list[i], list[i+1])
		}
	}
	if a, b := Rules(k, 1), Rules(k, 1); &a[0] == &b[0] {
		t.Error("answers of Rules share memory")
	}
}

// spoil changes all that can be changed in a value's lists.
func spoil(v reflect.Value) {
	switch v.Kind() {
	case reflect.String:
		v.SetString(v.String() + "Z")
	case reflect.Int:
		v.SetInt(v.Int() + 1)
	case reflect.Uint64:
		v.SetUint(^v.Uint())
	case reflect.Bool:
		v.SetBool(!v.Bool())
	case reflect.Struct:
		for i := range v.NumField() {
			spoil(v.Field(i))
		}
	case reflect.Slice, reflect.Array:
		for i := range v.Len() {
			spoil(v.Index(i))
		}
	}
}

// What is written into an answer or, later, into an argument is seen by nobody; an argument stays as it was.
func TestNothingIsKept(t *testing.T) {
	d := must(t, allOfIt)
	first, _ := Make(d)
	second, _ := Make(d)
	spoil(reflect.ValueOf(&first).Elem())
	if !defs.Same(d, must(t, allOfIt)) {
		t.Error("the argument changed")
	}
	spoil(reflect.ValueOf(&d).Elem())
	if third, _ := Make(must(t, allOfIt)); !reflect.DeepEqual(second, third) {
		t.Error("an answer changed")
	}
	if !defs.Same(second.Def, must(t, allOfIt)) {
		t.Error("the definition is another one")
	}
}

// What lies behind a list's length is neither read nor written.
func TestBehindTheLists(t *testing.T) {
	more := must(t, allOfIt+`cf E.Last = "x" F; cf F.More = "y"; prio left Last; follow F [y]; reject W K; box Last = "x" 1;`)
	before := must(t, allOfIt+`cf E.Last = "x" F; cf F.More = "y"; prio left Last; follow F [y]; reject W K; box Last = "x" 1;`)
	cut := more
	cut.Prods, cut.Chains, cut.Follows = cut.Prods[:6], cut.Chains[:2], cut.Follows[:2]
	cut.Rejects, cut.Boxes = cut.Rejects[:1], cut.Boxes[:2]
	k, e := Make(cut)
	want, _ := Make(must(t, allOfIt))
	if e != api.OK || !reflect.DeepEqual(k, want) {
		t.Errorf("Make = %+v %v", k, e)
	}
	if !defs.Same(more, before) {
		t.Error("what lies behind a list changed")
	}
}

// Lists that are nil and lists that are empty are the same.
func TestEmptyLists(t *testing.T) {
	a := must(t, `start E; cf E.A = "a";`)
	b := a
	a.Chains, a.Follows, a.Rejects, a.Boxes = nil, nil, nil, nil
	b.Chains, b.Follows, b.Rejects, b.Boxes = [][]api.Group{}, []api.Follow{}, []api.Reject{}, []api.Box{}
	x, e := Make(a)
	y, f := Make(b)
	if e != api.OK || f != api.OK || !reflect.DeepEqual(x.Gram, y.Gram) || !reflect.DeepEqual(x.Names, y.Names) || !defs.Same(x.Def, y.Def) || len(y.Filters.Bans) > 0 {
		t.Errorf("%+v %v, %+v %v", x, e, y, f)
	}
}

// The greatest definitions have grammars that are right: as many productions, lists and masks as may be.
func TestMostLists(t *testing.T) {
	var d api.Def
	d.Start = "S0"
	n := 0
	list := func(kind int) api.Sym {
		n++
		return api.Sym{Kind: kind, Name: "S0", Sep: strings.Repeat("\xff", api.MaxLit-4) + strconv.Itoa(1000+n)}
	}
	for i := range api.MaxProds - 1 {
		p := api.Prod{Sort: "S" + strconv.Itoa(i), Cons: "C" + strconv.Itoa(i)}
		for range api.MaxOmit {
			p.Syms = append(p.Syms, list(api.SStar))
		}
		for len(p.Syms) < api.MaxSyms {
			p.Syms = append(p.Syms, list(api.SPlus))
		}
		d.Prods = append(d.Prods, p)
	}
	d.Layout = "W"
	d.Prods = append(d.Prods, api.Prod{Lex: true, Sort: "W", Syms: []api.Sym{{Kind: api.SSet, Set: charset.Of(' ')}}})
	k, e := Make(d)
	if e != api.OK || facts.Right(k.Gram) != api.OK {
		t.Fatalf("Make: %v", e)
	}
	if nts, rules := 200+199*12+2, 199*16+1+2*199*12+3; k.Gram.Nts != nts || len(k.Gram.Rules) != rules {
		t.Errorf("%d nonterminals, %d rules", k.Gram.Nts, len(k.Gram.Rules))
	}
	if most := k.Gram.Rules[199*16+2].Rhs; len(most) != 1+1+api.MaxLit+1+1 {
		t.Errorf("%d symbols", len(most))
	}
}

// A rule of MaxRhs symbols, with gaps and without, and a definition that would have one of more.
func TestMostSymbols(t *testing.T) {
	bytes := func(n int) string {
		full := `"` + strings.Repeat("y", api.MaxLit) + `" `
		return full + full + `"` + strings.Repeat("y", n-2*api.MaxLit) + `" `
	}
	for _, c := range []struct {
		text string
		most int
	}{{`start E; `, 78}, {`start E; layout W; lex W = "w"; `, 74}} {
		d := must(t, c.text+`cf E.A = `+bytes(c.most)+` E E+; cf E.B = "b";`)
		k, e := Make(d)
		if have := Rules(k, len(d.Prods)-2); e != api.OK || len(have) != 1 || len(k.Gram.Rules[have[0]].Rhs) != api.MaxRhs || facts.Right(k.Gram) != api.OK {
			t.Errorf("Make: %v %v", e, have)
		}
		if k, e := Make(must(t, c.text+`cf E.A = `+bytes(c.most+1)+` E E+; cf E.B = "b";`)); e != api.ErrDef || !isNothing(k) {
			t.Errorf("Make = %+v %v", k, e)
		}
	}
}

// Many productions in one chain, and many chains, are answered soon.
func TestManyBars(t *testing.T) {
	const n, group = api.MaxProds, 13
	text, prio := `start E; cf E.C0 = "0"; `, "prio left C0"
	for i := 1; i < n; i++ {
		text += "cf E.C" + strconv.Itoa(i) + ` = E? "x" E; `
		if i%group == 0 {
			prio += " > left"
		}
		prio += " C" + strconv.Itoa(i)
	}
	d := must(t, text+prio+";")
	d.Chains = slices.Repeat(d.Chains, 1000)
	k, e := Make(d)
	want := 0
	for p := 1; p < n; p++ {
		begin, end := p/group*group, min(p/group*group+group, n)
		own := 2 * (end - begin)
		if begin == 0 {
			own-- // C0 has one rule, all others have two
		}
		want += 3*2*(n-end) + 2*own
	}
	if e != api.OK || len(k.Filters.Bans) != want {
		t.Errorf("Make: %v, %d bans, not %d", e, len(k.Filters.Bans), want)
	}
	rise := func(a, b api.Ban) int {
		return slices.Compare([]int{a.Rule, a.Pos, a.Kid}, []int{b.Rule, b.Pos, b.Kid})
	}
	if !slices.IsSortedFunc(k.Filters.Bans, rise) || len(slices.Compact(k.Filters.Bans)) != want {
		t.Error("the bans do not rise, or one stands twice")
	}
}
