package check

import (
	"math/rand"
	"reflect"
	"slices"
	"strconv"
	"testing"

	"tracery/api"
	"tracery/charset"
)

func equal(t *testing.T, what string, have, want []string) {
	t.Helper()
	if !slices.Equal(have, want) {
		t.Errorf("%s = %q, not %q", what, have, want)
	}
}

const several = `cf E.A = F? N; lex N = M [a]; cf F.B = "f" X {G ","}*; lex M = "m"; cf E.C = "e"; lex N = "n"; cf G.D = E+; cf H.I = H; cf J.K = [a] "E";`

func TestSorts(t *testing.T) {
	d := must(t, several)
	equal(t, "Sorts", Sorts(d), []string{"E", "N", "F", "M", "G", "H", "J"})
	equal(t, "Lexical", Lexical(d), []string{"N", "M"})
	equal(t, "Sorts of nothing", Sorts(api.Def{Start: "A", Layout: "B"}), nil)
	equal(t, "Lexical of nothing", Lexical(api.Def{Layout: "B"}), nil)
	mixed := must(t, `cf A.B = "a"; lex C = "c"; lex A = "a"; cf C.D = "d";`)
	equal(t, "Lexical of mixed ones", Lexical(mixed), []string{"A", "C"})
}

func TestUses(t *testing.T) {
	d := must(t, several)
	for sort, want := range map[string][]string{
		"E": {"E", "N", "F", "M", "G"}, "F": {"E", "N", "F", "M", "G"}, "G": {"E", "N", "F", "M", "G"},
		"N": {"M"}, "M": nil, "H": {"H"}, "J": nil, "X": nil, "": nil,
	} {
		equal(t, "Uses of "+sort, Uses(d, sort), want)
	}
	equal(t, "Uses", Uses(must(t, `lex C = D; lex B = C; lex D = "d" A; lex A = "a";`), "B"), []string{"C", "D", "A"})
}

func TestHoles(t *testing.T) {
	p := must(t, `lex A = "a" A [a] "b" "c" A? [a]* {A ","}+;`).Prods[0]
	if have := Holes(p); !slices.Equal(have, []int{1, 2, 5, 6, 7}) {
		t.Errorf("Holes = %v", have)
	}
	if have := Holes(must(t, `cf A.B = "a" "";`).Prods[0]); len(have) != 0 {
		t.Errorf("Holes = %v", have)
	}
	if have := Holes(api.Prod{Syms: []api.Sym{{}, {Kind: api.SLit, Name: "A"}, {Kind: 99}, {Kind: -1}}}); !slices.Equal(have, []int{0, 2, 3}) {
		t.Errorf("Holes = %v", have)
	}
	if have := Holes(api.Prod{}); len(have) != 0 {
		t.Errorf("Holes = %v", have)
	}
}

func TestCons(t *testing.T) {
	d := must(t, `lex N.A = "n"; cf E = "(" E ")" bracket; cf E.A = "a"; cf E.B = "b"; cf F.A = "c"; lex M = "m"; lex M.C = "c";`)
	for name, want := range map[string]int{"A": 2, "B": 3, "C": -1, "E": -1, "": -1, "a": -1} {
		if have := Cons(d, name); have != want {
			t.Errorf("Cons of %q = %d", name, have)
		}
	}
	if have := Cons(api.Def{}, ""); have != -1 {
		t.Errorf("Cons = %d", have)
	}
}

// Definitions that no text says are answered too.
func TestHandMadeOnes(t *testing.T) {
	d := api.Def{Prods: []api.Prod{
		{Sort: "", Cons: "x y", Syms: []api.Sym{{Kind: api.SLit, Name: "b"}, {Kind: 99, Name: "c"}}},
		{Sort: "b", Bracket: true, Lex: true, Cons: "q", Syms: []api.Sym{{}}},
		{Sort: "c", Syms: []api.Sym{{Name: "b"}, {Name: "nowhere"}, {Kind: api.SSet, Set: charset.Of('a'), Name: "c"}}},
		{Sort: "", Lex: true, Cons: "x y"},
	}}
	equal(t, "Sorts", Sorts(d), []string{"", "b", "c"})
	equal(t, "Lexical", Lexical(d), []string{"", "b"})
	equal(t, "Uses of nothing's name", Uses(d, ""), []string{"b", "c"})
	equal(t, "Uses of c", Uses(d, "c"), []string{"b", "c"})
	equal(t, "Uses of b", Uses(d, "b"), nil)
	if a, b := Cons(d, "x y"), Cons(d, "q"); a != 0 || b != -1 {
		t.Errorf("Cons = %d %d", a, b)
	}
	if e, name := Check(d); e != api.ErrForm || name != "" {
		t.Errorf("Check = %v %q", e, name)
	}
}

// wild fills a value by chance, with little care for what is right.
func wild(v reflect.Value, r *rand.Rand, depth int) {
	names := []string{"", "A", "B", "C", "a", "\x00"}
	switch v.Kind() {
	case reflect.String:
		v.SetString(names[r.Intn(len(names))])
	case reflect.Int:
		v.SetInt(int64(r.Intn(9) - 1))
	case reflect.Uint64:
		v.SetUint(uint64(r.Intn(3)))
	case reflect.Bool:
		v.SetBool(r.Intn(2) == 0)
	case reflect.Struct:
		for i := range v.NumField() {
			wild(v.Field(i), r, depth)
		}
	case reflect.Array:
		for i := range v.Len() {
			wild(v.Index(i), r, depth)
		}
	case reflect.Slice:
		if depth == 0 {
			return
		}
		v.Set(reflect.MakeSlice(v.Type(), r.Intn(4), 6))
		for i := range v.Len() {
			wild(v.Index(i), r, depth-1)
		}
	}
}

func TestWildOnes(t *testing.T) {
	r := rand.New(rand.NewSource(4))
	for range 20000 {
		var d, before api.Def
		seed := r.Int63()
		wild(reflect.ValueOf(&d).Elem(), rand.New(rand.NewSource(seed)), 4)
		wild(reflect.ValueOf(&before).Elem(), rand.New(rand.NewSource(seed)), 4)
		if e, name := Check(d); e == api.OK && name != "" || e == api.ErrForm && name != "" {
			t.Fatalf("Check(%+v) = %v %q", d, e, name)
		}
		usesIsClosed(t, d)
		for i, p := range d.Prods {
			Holes(p)
			if at := Cons(d, p.Cons); (p.Cons == "") != (at < 0) && !p.Lex || at > i && !p.Lex {
				t.Fatalf("Cons of %q = %d: %+v", p.Cons, at, d)
			}
		}
		for _, sort := range Lexical(d) {
			if !slices.Contains(Sorts(d), sort) {
				t.Fatalf("%q is no sort: %+v", sort, d)
			}
		}
		if !reflect.DeepEqual(d, before) {
			t.Fatalf("what was handed in changed: %+v", d)
		}
	}
}

func TestAnswersAreNewMemory(t *testing.T) {
	d := must(t, several)
	for _, ask := range []func() []string{
		func() []string { return Sorts(d) }, func() []string { return Lexical(d) }, func() []string { return Uses(d, "E") },
	} {
		a, b := ask(), slices.Clone(ask())
		for i := range a {
			a[i] = "Z"
		}
		if !slices.Equal(ask(), b) {
			t.Error("an answer changed")
		}
	}
}

// A definition of many sorts, each of which uses the next one, is answered soon.
func TestManySorts(t *testing.T) {
	const n = 100000
	var d api.Def
	name := func(i int) string { return "S" + strconv.Itoa(i) }
	for i := range n {
		d.Prods = append(d.Prods, api.Prod{Lex: true, Sort: name(i), Syms: []api.Sym{{Kind: api.SSort, Name: name((i + 1) % n)}}})
	}
	if a, b, c := len(Sorts(d)), len(Lexical(d)), len(Uses(d, name(7))); a != n || b != n || c != n {
		t.Errorf("%d %d %d sorts", a, b, c)
	}
}
