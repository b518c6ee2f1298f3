package defs

import (
	"math/rand"
	"reflect"
	"testing"

	"tracery/api"
	"tracery/charset"
)

func prods(p ...api.Prod) api.Def { return api.Def{Prods: p} }

// symbols is a definition with one production of these symbols.
func symbols(s ...api.Sym) api.Def { return prods(api.Prod{Sort: "A", Cons: "B", Syms: s}) }

func items(i ...api.Item) api.Def { return api.Def{Boxes: []api.Box{{Cons: "A", Items: i}}} }

func groups(g ...api.Group) api.Def { return api.Def{Chains: [][]api.Group{g}} }

func times[T any](n int, x T) []T {
	var list []T
	for range n {
		list = append(list, x)
	}
	return list
}

var (
	one7   = []api.Sym{lit("7")}
	aSet   = charset.Of('a')
	longer = repeat(api.MaxLit+1, "x")
	full   = repeat(api.MaxLit, "x")
	wrong  = []string{"a", "A_", "Ab ", "7", "\"", "A" + repeat(api.MaxName, "a"), "É", "A\x00"}
)

func TestRightOnes(t *testing.T) {
	for i, d := range []api.Def{
		{}, {Start: "A", Layout: "A"}, {Prods: []api.Prod{}, Chains: [][]api.Group{}, Boxes: []api.Box{}},
		{Start: "A" + repeat(api.MaxName-1, "a")},
		prods(times(api.MaxProds, api.Prod{Sort: "A", Cons: "B", Syms: one7})...),
		prods(api.Prod{Lex: true, Sort: "A", Syms: one7}, api.Prod{Lex: true, Sort: "A", Cons: "B", Syms: one7}, api.Prod{Sort: "A", Bracket: true, Syms: one7}),
		symbols(times(api.MaxSyms, lit(full))...), symbols(lit("")), symbols(lit("\x00\xff")),
		symbols(set(api.SSet), set(api.SOpt), set(api.SStar), set(api.SPlus), set(api.SSet, 0, 255)),
		symbols(sort(api.SSort, "A"), sort(api.SOpt, "A"), sort(api.SStar, "A"), sort(api.SPlus, "A")),
		symbols(sep(api.SStar, "A", "x"), sep(api.SPlus, "A", full)),
		groups(times(api.MaxGroups, api.Group{Assoc: api.ANon, Cons: times(api.MaxGroups, "A")})...),
		{Chains: times(1000, []api.Group{{Cons: []string{"A"}}})},
		{Follows: times(1000, api.Follow{Sort: "A"}), Rejects: times(1000, api.Reject{Sort: "A", By: "A"}), Boxes: times(1000, api.Box{Cons: "A"})},
		items(times(api.MaxItems, api.Item{Kind: api.BText, Text: full})...),
		items(api.Item{Kind: api.BHole, N: 999999}, api.Item{Kind: api.BHole}, api.Item{Kind: api.BNest, N: 999999}, api.Item{Kind: api.BLine, Items: []api.Item{}}),
		items(api.Item{Kind: api.BGroup, Items: times(api.MaxItems-1, api.Item{Kind: api.BCut})}),
		items(nested(api.MaxItems)),
	} {
		if !Right(d) {
			t.Errorf("number %d is not right: %+v", i, d)
		}
	}
}

// nested is so many items within one another.
func nested(n int) api.Item {
	i := api.Item{Kind: api.BLine}
	for range n - 1 {
		i = api.Item{Kind: api.BGroup, Items: []api.Item{i}}
	}
	return i
}

func wrongOnes() []api.Def {
	list := []api.Def{
		prods(times(api.MaxProds+1, api.Prod{Sort: "A", Cons: "B", Syms: one7})...),
		prods(api.Prod{Sort: "A", Syms: one7}), prods(api.Prod{Sort: "A", Cons: "B", Bracket: true, Syms: one7}),
		prods(api.Prod{Lex: true, Sort: "A", Bracket: true, Syms: one7}), prods(api.Prod{Lex: true, Sort: "A", Cons: "B", Bracket: true, Syms: one7}),
		prods(api.Prod{Cons: "B", Syms: one7}), prods(api.Prod{Lex: true, Syms: one7}), prods(api.Prod{}),
		symbols(), prods(api.Prod{Lex: true, Sort: "A", Syms: []api.Sym{}}), symbols(times(api.MaxSyms+1, lit("x"))...),
		symbols(api.Sym{}), symbols(api.Sym{Kind: 7}), symbols(api.Sym{Kind: -1}), symbols(lit("x"), api.Sym{Kind: 7, Name: "A"}),
		symbols(lit(longer)), symbols(api.Sym{Kind: api.SLit, Text: "x", Name: "A"}), symbols(api.Sym{Kind: api.SLit, Sep: "x"}), symbols(api.Sym{Kind: api.SLit, Set: aSet}),
		symbols(api.Sym{Kind: api.SSet, Set: aSet, Text: "x"}), symbols(api.Sym{Kind: api.SSet, Set: aSet, Name: "A"}), symbols(api.Sym{Kind: api.SSet, Set: aSet, Sep: "x"}),
		symbols(api.Sym{Kind: api.SSort}), symbols(api.Sym{Kind: api.SSort, Name: "A", Text: "x"}), symbols(api.Sym{Kind: api.SSort, Name: "A", Set: aSet}), symbols(api.Sym{Kind: api.SSort, Name: "A", Sep: "x"}),
		symbols(sep(api.SOpt, "A", "x")), symbols(sep(api.SStar, "A", longer)), symbols(sep(api.SPlus, "A", longer)),
		{Chains: [][]api.Group{{}}}, {Chains: [][]api.Group{nil}}, groups(api.Group{}), groups(api.Group{Cons: []string{}}), groups(api.Group{Assoc: api.ALeft}),
		groups(api.Group{Assoc: -1, Cons: []string{"A"}}), groups(api.Group{Assoc: 4, Cons: []string{"A"}}), groups(api.Group{Cons: []string{"A", ""}}),
		groups(api.Group{Cons: []string{"A"}}, api.Group{}),
		groups(times(api.MaxGroups+1, api.Group{Cons: []string{"A"}})...), groups(api.Group{Cons: times(api.MaxGroups+1, "A")}),
		{Follows: []api.Follow{{Set: aSet}}}, {Rejects: []api.Reject{{Sort: "A"}}}, {Rejects: []api.Reject{{By: "A"}}}, {Rejects: []api.Reject{{}}}, {Boxes: []api.Box{{}}},
		items(api.Item{}), items(api.Item{Kind: 7}), items(api.Item{Kind: -1}),
		items(times(api.MaxItems+1, api.Item{Kind: api.BLine})...), items(nested(api.MaxItems + 1)), items(nested(api.MaxItems), api.Item{Kind: api.BLine}),
		items(api.Item{Kind: api.BGroup, Items: times(api.MaxItems, api.Item{Kind: api.BCut})}), items(api.Item{Kind: api.BGroup, Items: []api.Item{{}}}),
		items(api.Item{Kind: api.BText, Text: longer}), items(api.Item{Kind: api.BText, N: 1}),
		items(api.Item{Kind: api.BHole, N: -1}), items(api.Item{Kind: api.BHole, N: 1000000}), items(api.Item{Kind: api.BHole, Text: "x"}),
		items(api.Item{Kind: api.BNest, N: -1}), items(api.Item{Kind: api.BNest, N: 1000000}), items(api.Item{Kind: api.BNest, Text: "x"}),
		items(api.Item{Kind: api.BGroup, N: 1}), items(api.Item{Kind: api.BGroup, Text: "x"}),
		items(api.Item{Kind: api.BLine, N: 1}), items(api.Item{Kind: api.BLine, Text: "x"}), items(api.Item{Kind: api.BCut, N: -1}), items(api.Item{Kind: api.BCut, Text: "x"}),
	}
	for _, kind := range []int{api.SOpt, api.SStar, api.SPlus} {
		list = append(list, symbols(api.Sym{Kind: kind, Name: "A", Set: aSet}), symbols(api.Sym{Kind: kind, Name: "A", Text: "x"}),
			symbols(api.Sym{Kind: kind, Set: aSet, Text: "x"}), symbols(api.Sym{Kind: kind, Set: aSet, Sep: "x"}), symbols(api.Sym{Kind: kind, Sep: "x"}))
	}
	for _, kind := range []int{api.BText, api.BHole, api.BLine, api.BCut} {
		list = append(list, items(api.Item{Kind: kind, Items: []api.Item{{Kind: api.BLine}}}))
	}
	for _, s := range wrong {
		list = append(list, api.Def{Start: s}, api.Def{Layout: s},
			prods(api.Prod{Sort: s, Cons: "B", Syms: one7}), prods(api.Prod{Sort: "A", Cons: s, Syms: one7}), prods(api.Prod{Lex: true, Sort: "A", Cons: s, Syms: one7}),
			symbols(sort(api.SSort, s)), symbols(sort(api.SOpt, s)), symbols(sort(api.SStar, s)), symbols(sep(api.SPlus, s, "x")),
			groups(api.Group{Cons: []string{"A", s}}), api.Def{Follows: []api.Follow{{Sort: s}}},
			api.Def{Rejects: []api.Reject{{Sort: s, By: "A"}}}, api.Def{Rejects: []api.Reject{{Sort: "A", By: s}}}, api.Def{Boxes: []api.Box{{Cons: s}}})
	}
	return list
}

func TestWrongOnes(t *testing.T) {
	for i, d := range wrongOnes() {
		if Right(d) {
			t.Errorf("number %d is right: %+v", i, d)
		}
		if s, e := Print(d); s != "" || e != api.ErrForm {
			t.Errorf("number %d: Print = %q %v", i, s, e)
		}
	}
}

// A deep item, and one that is within itself, are looked at no further than the limit.
func TestRightEnds(t *testing.T) {
	if Right(items(nested(1 << 16))) {
		t.Error("a deep item is right")
	}
	ring := []api.Item{{Kind: api.BGroup}}
	ring[0].Items = ring
	if Right(items(ring...)) {
		t.Error("an item within itself is right")
	}
}

// spots is each place of a value that can be changed, with a call that changes it.
func spots(v reflect.Value, met func(change func())) {
	switch v.Kind() {
	case reflect.String:
		met(func() { v.SetString(v.String() + "Z") })
	case reflect.Int:
		met(func() { v.SetInt(v.Int() + 1) })
	case reflect.Uint64:
		met(func() { v.SetUint(v.Uint() ^ 4) })
	case reflect.Bool:
		met(func() { v.SetBool(!v.Bool()) })
	case reflect.Struct:
		for i := range v.NumField() {
			spots(v.Field(i), met)
		}
	case reflect.Array:
		for i := range v.Len() {
			spots(v.Index(i), met)
		}
	case reflect.Slice:
		met(func() { v.Set(reflect.Append(v, reflect.Zero(v.Type().Elem()))) })
		if v.Len() > 0 {
			met(func() { v.Set(v.Slice(0, v.Len()-1)) })
		}
		for i := range v.Len() {
			spots(v.Index(i), met)
		}
	}
}

const allOfIt = `start A; layout B; lex A.B = "a" [a] {B ","}*; cf A.C = A B+; prio left A > B C; prio D; follow A [a]; reject A B;
	box A = 1 "a" nest 3 ( group ( / ) _ ) 2; box B =;`

func TestSameFieldByField(t *testing.T) {
	total := 0
	d := must(t, allOfIt)
	spots(reflect.ValueOf(&d).Elem(), func(func()) { total++ })
	if total < 100 {
		t.Errorf("only %d places", total)
	}
	for i := range total {
		a, b, n := must(t, allOfIt), must(t, allOfIt), 0
		if !Same(a, b) {
			t.Fatal("the same is not the same")
		}
		var change func()
		spots(reflect.ValueOf(&b).Elem(), func(c func()) {
			if n == i {
				change = c
			}
			n++
		})
		change()
		if Same(a, b) || Same(b, a) {
			t.Errorf("change %d is not seen: %+v", i, b)
		}
	}
}

func TestSameOfEmptyLists(t *testing.T) {
	a := api.Def{Prods: []api.Prod{{}}, Chains: [][]api.Group{nil, {{}}}, Boxes: []api.Box{{Items: []api.Item{{}}}}}
	b := api.Def{
		Prods: []api.Prod{{Syms: []api.Sym{}}}, Chains: [][]api.Group{{}, {{Cons: []string{}}}}, Follows: []api.Follow{}, Rejects: []api.Reject{},
		Boxes: []api.Box{{Items: []api.Item{{Items: []api.Item{}}}}},
	}
	if !Same(a, b) || !Same(b, a) || !Same(api.Def{}, api.Def{Prods: []api.Prod{}, Chains: [][]api.Group{}, Boxes: []api.Box{}}) {
		t.Error("a nil list is no empty one")
	}
	if Same(a, api.Def{}) || Same(api.Def{}, b) {
		t.Error("lists of another length are the same")
	}
}

// What lies behind a list's length is not looked at, and nothing of what is handed in changes.
func TestArgumentsAreLeftAlone(t *testing.T) {
	d := must(t, allOfIt)
	d.Prods = append(d.Prods[:1:1], d.Prods...)[:1]
	text, e := Print(d)
	if back := must(t, text); e != api.OK || len(back.Prods) != 1 {
		t.Errorf("Print = %q %v", text, e)
	}
	if whole := d.Prods[:3]; !reflect.DeepEqual(whole[1:], must(t, allOfIt).Prods) {
		t.Error("what lies behind a list changed")
	}
}

// Hand-made definitions, one change or several away from right ones, are answered.
func TestHandMadeOnes(t *testing.T) {
	m := maker{rand.New(rand.NewSource(2))}
	rightOnes := 0
	for range 20000 {
		d := m.def()
		for range m.Intn(3) {
			var changes []func()
			spots(reflect.ValueOf(&d).Elem(), func(c func()) { changes = append(changes, c) })
			changes[m.Intn(len(changes))]()
		}
		s, e := Print(d)
		if Right(d) != (e == api.OK) || !Same(d, d) {
			t.Fatalf("%+v: %v %v", d, Right(d), e)
		}
		if e != api.OK {
			continue
		}
		rightOnes++
		if back := must(t, s); !Same(d, back) {
			t.Fatalf("%+v is read as %+v", d, back)
		}
	}
	if rightOnes < 1000 {
		t.Errorf("only %d right ones", rightOnes)
	}
}
