package check

import (
	"math/rand"
	"reflect"
	"slices"
	"strings"
	"testing"

	"tracery/api"
	"tracery/charset"
	"tracery/defs"
)

func must(t *testing.T, text string) api.Def {
	t.Helper()
	d, f := defs.Parse(text)
	if f.Code != api.OK {
		t.Fatalf("Parse(%q): %v", text, f)
	}
	return d
}

// told holds what Check tells of a text's definition against what is wanted.
func told(t *testing.T, text string, code api.Errno, name string) {
	t.Helper()
	if e, who := Check(must(t, text)); e != code || who != name {
		t.Errorf("Check(%.200q) = %v %q, not %v %q", text, e, who, code, name)
	}
}

func repeat(n int, one string) string { return strings.Repeat(one, n) }

func TestCheckExamples(t *testing.T) {
	told(t, `start E; cf E.A = E "+" E; cf E.N = N; lex N = [0-9]+;`, api.OK, "")
	told(t, `start E; cf E.A = E;`, api.ErrCycle, "E")
	told(t, `start E; cf E.A = F;`, api.ErrUndefined, "F")
	told(t, `start E; cf E.A = N* ; lex N = "n";`, api.ErrNull, "E")
	told(t, `start E; layout W; cf E.Add = E "+" E; cf E.Mul = E "*" E; cf E.Num = N; cf E = "(" E ")" bracket;
		lex N = [0-9]+; lex W = [\s\n]; prio left Mul > left Add; follow N [0-9];`, api.OK, "")
}

// good is a definition with which nothing is wrong.
const good = `start E; layout W; cf E.Add = E "+" E; cf E.Num = N; cf E.Id = I; cf E.List = "[" {E ","}* "]"; cf E = "(" E ")" bracket;
	lex N = [0-9]+; lex I = [a-z]+; lex K = "if" | L "x"; lex L = "l"; lex W = [\s] | "#" C*; lex W.Note = "//" C* "\n"; lex C = [a-z];
	prio left Add; follow N [0-9]; follow W [#]; reject I K; box Add = group ( 1 _ "+" nest 2 ( / 2 ) ); box Num = 1; `

// spoilt is, for each line of what Check looks for, statements that make good a definition with which just that is wrong.
var spoilt = []struct {
	text string
	code api.Errno
	name string
}{
	{`lex A = "a"; cf A.Mixed = "b";`, api.ErrMixed, "A"},
	{`start Nowhere;`, api.ErrStart, "Nowhere"},
	{`layout Nowhere;`, api.ErrLayout, "Nowhere"},
	{`cf U.Un = "u" Missing;`, api.ErrUndefined, "Missing"},
	{`lex X = "x" E;`, api.ErrKind, "X"},
	{`cf D.Twice = "d"; cf D.Twice = "e";`, api.ErrCons, "Twice"},
	{`cf B = "(" N ")" bracket;`, api.ErrBracket, "B"},
	{`cf G.Long = "g" N? N? N? N? N?;`, api.ErrLong, "G"},
	{`cf H.Null = "";`, api.ErrNull, "H"},
	{`cf P.Bare = Q; cf Q.Bare2 = P;`, api.ErrCycle, "P"},
	{`lex R = "r"; reject R R;`, api.ErrReject, "R"},
	{`prio NoCons;`, api.ErrPrio, "NoCons"},
	{`follow C [];`, api.ErrFollow, "C"},
	{`box NoBox =;`, api.ErrBox, "NoBox"},
}

// spoil puts statements behind good; a start or layout that is said instead takes the other's place.
func spoil(texts ...string) string {
	all := good
	for _, text := range texts {
		for _, key := range []string{"start ", "layout "} {
			if strings.HasPrefix(text, key) {
				all = strings.Replace(all, key+map[string]string{"start ": "E", "layout ": "W"}[key]+";", "", 1)
			}
		}
		all += text
	}
	return all
}

func TestCheckTellsTheFirstLine(t *testing.T) {
	told(t, good, api.OK, "")
	for i, a := range spoilt {
		told(t, spoil(a.text), a.code, a.name)
		for _, b := range spoilt[i+1:] {
			told(t, spoil(a.text, b.text), a.code, a.name)
			told(t, spoil(b.text, a.text), a.code, a.name)
		}
	}
}

func TestCheckForm(t *testing.T) {
	d := must(t, good)
	for _, change := range []func(d *api.Def){
		func(d *api.Def) { d.Prods[0].Syms = nil },
		func(d *api.Def) { d.Prods[0].Lex = true; d.Prods[0].Bracket = true },
		func(d *api.Def) { d.Start = "e" },
		func(d *api.Def) { d.Chains = [][]api.Group{{}} },
		func(d *api.Def) { d.Boxes = []api.Box{{Cons: "Num", Items: []api.Item{{Kind: 9}}}} },
		func(d *api.Def) { d.Prods[0].Syms[0].Text = "x" },
	} {
		wrong := must(t, good)
		change(&wrong)
		wrong.Prods = append(wrong.Prods, must(t, `cf N.Mixed = "a";`).Prods...)
		if e, name := Check(wrong); e != api.ErrForm || name != "" {
			t.Errorf("Check = %v %q", e, name)
		}
	}
	if e, name := Check(api.Def{}); e != api.ErrStart || name != "" {
		t.Errorf("Check of nothing = %v %q", e, name)
	}
	if e, name := Check(d); e != api.OK || name != "" {
		t.Errorf("Check = %v %q", e, name)
	}
}

func TestCheckSorts(t *testing.T) {
	told(t, `start A; lex B = "b"; lex A = "a"; cf A.X = "x"; cf B.Y = "y";`, api.ErrMixed, "B")
	told(t, `start A; cf B.Y = "y"; lex A = "a"; cf A.X = "x";`, api.ErrMixed, "A")
	told(t, `cf A.X = "x";`, api.ErrStart, "")
	told(t, `start A; lex A = "x";`, api.ErrStart, "A")
	told(t, `start A; cf A.X = "x"; layout A;`, api.ErrLayout, "A")
	told(t, `start B; layout B; cf A.X = "x";`, api.ErrStart, "B")
	told(t, `start A; cf A.X = "x"; layout B; lex B = "b";`, api.OK, "")
}

func TestCheckUndefined(t *testing.T) {
	const some = `start E; cf E.A = "a"; lex N = "n"; lex M = "m"; `
	for _, c := range [][2]string{
		{`cf E.B = "b" E? X* Y;`, "X"}, {`cf E.B = X?;`, "X"}, {`cf E.B = X+;`, "X"}, {`cf E.B = {X ","}*;`, "X"}, {`lex N = "n" X;`, "X"},
		{`cf E.B = E X; cf E.C = Y;`, "X"}, {`cf E.B = Y; lex N = X;`, "Y"},
		{`follow X [a]; cf E.B = Y;`, "Y"}, {`follow X [a]; follow Y [a];`, "X"}, {`follow N [a]; follow Y [a];`, "Y"}, {`reject X N; follow Y [a];`, "Y"},
		{`reject X N;`, "X"}, {`reject N X;`, "X"}, {`reject Y X;`, "Y"}, {`reject N Y; reject X N;`, "Y"}, {`reject N M; reject M X;`, "X"},
	} {
		told(t, some+c[0], api.ErrUndefined, c[1])
	}
	told(t, some+`follow E [a];`, api.OK, "")
}

func TestCheckKind(t *testing.T) {
	const some = `start E; layout W; cf E.A = "a"; lex N = "n"; lex W = " "; `
	for _, c := range []string{`lex X = "x" E;`, `lex X = "x" N E?;`, `lex X = "x" {N ","}*;`, `lex X = {N ","}+;`,
		`cf X.B = [a];`, `cf X.B = "x" [a]?;`, `cf X.B = N [a]*;`, `cf X.B = E [a]+;`, `cf X.B = [];`, `cf X.B = "x" W;`, `cf X.B = "x" W?;`, `cf X.B = {W ","}+;`} {
		told(t, some+c, api.ErrKind, "X")
	}
	told(t, some+`lex X = "x" W [a] [a]? [a]* [a]+ N? N* N+; cf E.B = "b" N {N "a"}* {N ","}+ E? E;`, api.OK, "")
	told(t, some+`cf E.B = [a]; lex X = "x" E;`, api.ErrKind, "E")
	told(t, `start E; cf E.A = "a" N; lex N = "n";`, api.OK, "")
}

func TestCheckCons(t *testing.T) {
	const some = `start E; cf E.A = "a"; cf E.B = "b"; cf F.C = "c"; `
	told(t, some+`cf F.A = "f";`, api.ErrCons, "A")
	told(t, some+`cf E.C = "f"; cf F.A = "g";`, api.ErrCons, "C")
	told(t, some+`cf F.B = "f"; cf E.B = "g"; cf E.A = "h";`, api.ErrCons, "B")
	told(t, some+`cf E = "(" E ")" bracket; cf F = "(" F ")" bracket; cf E = "[" E "]" bracket;`, api.OK, "")
	told(t, some+`lex N.A = "n" | "m"; lex N.X = "n"; lex M.X = "x"; lex N = "l";`, api.OK, "")
	told(t, `lex N.A = "n"; `+some, api.OK, "")
}

func TestCheckBracket(t *testing.T) {
	const some = `start E; cf E.A = "a"; cf F.C = "c"; `
	for _, c := range []string{`"(" ")"`, `"(" E E ")"`, `"(" F ")"`, `"(" E? ")"`, `"(" E* ")"`, `"(" E+ ")"`, `"(" {E ","}+ ")"`,
		`E ")"`, `"(" E`, `E`, `"("`, `"(" E ")" F`, `"(" "(" E`, `E ")" ")"`} {
		told(t, some+`cf E = `+c+` bracket;`, api.ErrBracket, "E")
	}
	told(t, some+`cf E = "(" E ")" bracket; cf F = "(" "(" F ")" bracket; cf F = "a" F "b" "c" bracket;`, api.OK, "")
	told(t, some+`cf F = "(" F ")" bracket; cf E = "(" F ")" bracket; cf F = "(" E ")" bracket;`, api.ErrBracket, "E")
}

func TestCheckLong(t *testing.T) {
	const some = `start E; cf E.A = "a"; lex N = "n"; `
	for _, c := range []string{`N?`, `N*`, `{N ","}*`} {
		most := `cf X.Y = "x" ` + repeat(api.MaxOmit, c+" ")
		told(t, some+most+";", api.OK, "")
		told(t, some+most+c+";", api.ErrLong, "X")
	}
	told(t, some+`lex X = "x" [a]? [a]* N? N*;`, api.OK, "")
	told(t, some+`lex X = "x" [a]? [a]* N? N* [b]?;`, api.ErrLong, "X")
	told(t, some+`lex X = "x" N N N N N+ [a] [a]+;`, api.OK, "")

	full := `"` + repeat(api.MaxLit, "y") + `" "` + repeat(api.MaxLit, "y") + `" ` // 64 bytes of two symbols
	rest := func(n int) string { return `"` + repeat(n, "y") + `"` }
	const gaps = `layout W; lex W = " "; `
	for _, c := range []struct {
		text string
		most int // bytes that a last literal may have
	}{
		{some + `lex X = ` + full, 16}, {some + `cf X.Y = ` + full, 16}, {some + gaps + `lex X = ` + full, 16}, {some + gaps + `cf X.Y = ` + full, 14},
		{some + `cf X.Y = N N? ` + full, 14}, {some + `lex X = [a] N+ [a]? ` + full, 13}, {some + gaps + `cf X.Y = N N? {N "` + repeat(32, ",") + `"}+ ` + full, 8},
	} {
		told(t, c.text+rest(c.most)+";", api.OK, "")
		told(t, c.text+rest(c.most+1)+";", api.ErrLong, "X")
	}
	told(t, some+`cf Z.Q = "x" N? N? N? N? N?; cf X.Y = `+full+rest(17)+";", api.ErrLong, "Z")
	told(t, some+`cf X.Y = `+full+rest(17)+`; cf Z.Q = "x" N? N? N? N? N?;`, api.ErrLong, "X")
}

func TestCheckNull(t *testing.T) {
	const some = `start E; cf E.A = "a"; lex N = "n"; `
	for _, c := range []string{`cf X.Y = "";`, `cf X.Y = "x" "";`, `cf X.Y = N?;`, `cf X.Y = N? N* {N ","}*;`, `lex X = [a]?;`, `lex X = [a]* N?;`, `lex X = "";`, `lex X = "a" | "" [b];`, `cf X = "" X ")" bracket;`} {
		told(t, some+c, api.ErrNull, "X")
	}
	told(t, some+`cf X.Y = N? "x"; cf X.Z = N+; lex M = [a]+; lex M = N N*; lex M = [];`, api.OK, "")
	told(t, some+`lex M = N?; cf X.Y = "";`, api.ErrNull, "M")
}

func TestCheckCycle(t *testing.T) {
	const some = `start E; cf E.A = "a"; lex N = "n"; cf F.A1 = "f"; cf G.A2 = "g"; cf H.A3 = "h"; `
	for _, c := range []string{`cf E.B = E;`, `cf E.B = E+;`, `cf E.B = {E ","}+;`, `cf E.B = N? E F*;`, `cf E.B = E? E;`, `cf E.B = F; cf F.C = E;`,
		`cf F.B = G+ N?; cf G.C = {E ","}+; cf E.D = F;`, `cf H.X1 = E; cf E.B = F; cf F.C = E;`} {
		told(t, some+c, api.ErrCycle, "E")
	}
	told(t, some+`cf G.B = H; cf H.C = G; cf F.D = F;`, api.ErrCycle, "F")
	told(t, some+`cf E.B = H; cf H.C = G; cf G.D = H;`, api.ErrCycle, "G")
	told(t, some+`cf E.B = F; cf G.C = H; cf H.D = G;`, api.ErrCycle, "G")
	told(t, some+`lex M = N [a]?; lex N = M;`, api.ErrCycle, "N")
	told(t, some+`cf E.B = F; cf F.C = G; cf G.D = H; cf E.E1 = E F; cf F.F1 = E "x"; cf G.G1 = E? "x"; cf H.H1 = "x" H? E*; lex M = N; lex N = [a] M?;`, api.OK, "")
}

func TestCheckReject(t *testing.T) {
	const some = `start E; cf E.A = "a" M; lex N = "n"; lex M = "m"; lex K = "k" O?; lex O = "o" P; lex P = "p"; `
	for _, c := range [][2]string{
		{`reject E K;`, "E"}, {`reject N E;`, "N"}, {`reject N N;`, "N"}, {`reject N K; reject M K; reject N P;`, "N"},
		{`reject N K; reject M N;`, "M"}, {`reject M N; reject N K;`, "M"}, {`reject N K; follow K [a];`, "N"}, {`reject N K; follow O [a];`, "N"},
		{`follow P [a]; reject N K;`, "N"}, {`reject N K; reject O M;`, "N"}, {`reject N K; reject P M;`, "N"}, {`reject P K;`, "P"}, {`reject O K;`, "O"},
		{`reject M P; reject N N; reject N E;`, "N"},
	} {
		told(t, some+c[0], api.ErrReject, c[1])
	}
	told(t, some+`reject N K; reject M K; follow N [a]; follow M [a]; follow E [b];`, api.OK, "")
	told(t, some+`reject K P; reject O P; reject N M;`, api.OK, "")
}

func TestCheckPrio(t *testing.T) {
	const some = `start E; cf E.A = "a"; cf E.B = "b"; cf E.C = "c"; lex N.D = "d"; cf E = "(" E ")" bracket; `
	for _, c := range [][2]string{
		{`prio X;`, "X"}, {`prio E;`, "E"}, {`prio D;`, "D"}, {`prio A > left B X > Y;`, "X"}, {`prio A A;`, "A"}, {`prio A B > C > non B;`, "B"},
		{`prio A > B > B > A;`, "B"}, {`prio A > A X;`, "A"}, {`prio A X > A;`, "X"}, {`prio A; prio B; prio C C; prio X;`, "C"},
	} {
		told(t, some+c[0], api.ErrPrio, c[1])
	}
	told(t, some+`prio A B C; prio left C > right B > non A; prio A > B;`, api.OK, "")
}

func TestCheckFollow(t *testing.T) {
	const some = `start E; cf E.A = "a"; lex N = "n"; `
	told(t, some+`follow E []; follow N [];`, api.ErrFollow, "E")
	told(t, some+`follow E [a]; follow N []; follow E [];`, api.ErrFollow, "N")
	told(t, some+`follow E [a]; follow N [^]; follow E [\x00]; follow N [\xff];`, api.OK, "")
}

func TestCheckBox(t *testing.T) {
	const some = `start E; cf E.A = "a" N "b" E? {E ","}*; cf E.B = "b"; lex N.L = "n"; cf E = "(" E ")" bracket; `
	for _, c := range []string{
		`box X =;`, `box L = "n";`, `box E = "(" 1 ")";`, `box B =;`, `box B = _;`, `box B = "a";`, `box B = "b" "b";`, `box B = 1;`, `box B = "";`, `box B = "b" 1;`,
		`box A = "a" 1 "b" 2;`, `box A = "a" 1 "b" 3 2;`, `box A = "a" 0 "b" 1 2;`, `box A = "a" 2 "b" 4 5;`, `box A = "a" 1 2 "b" 3;`, `box A = 1 2 3;`,
		`box A = "a" 1 "b" 2 3 4;`, `box A = "a" 1 "b" 2 3 "c";`, `box A = "a" 1 "B" 2 3;`, `box A = group ( "a" 1 "b" 2 ) nest 1 ( );`,
		`box B = nest 41 ( "b" );`, `box B = "b" nest 41 ( );`, `box B = group ( group ( nest 41 ( ) ) ) "b";`, `box B = nest 999999 ( "b" );`, `box B = nest 40 ( nest 41 ( "b" ) );`,
	} {
		told(t, some+c, api.ErrBox, strings.Fields(c)[1])
	}
	told(t, some+`box B = "b"; box A = "a" 1 "b" 2 3; box B = "b";`, api.ErrBox, "B")
	told(t, some+`box B = "b"; box A =; box X =;`, api.ErrBox, "A")
	told(t, some+`box A = _ / "a" nest 40 ( 1 group ( / "b" _ ) 2 nest 0 ( ) ) _ 3; box B = nest 40 ( nest 40 ( "b" ) );`, api.OK, "")
}

// A text of many statements is looked over in order, and soon.
func TestCheckManyStatements(t *testing.T) {
	d := must(t, good)
	for range 200000 {
		d.Chains = append(d.Chains, []api.Group{{Cons: []string{"Add", "Num", "Id"}}})
		d.Follows = append(d.Follows, api.Follow{Sort: "N", Set: charset.Of('x')})
	}
	if e, name := Check(d); e != api.OK || name != "" {
		t.Errorf("Check = %v %q", e, name)
	}
	d.Rejects = append(d.Rejects, slices.Repeat([]api.Reject{{Sort: "C", By: "K"}}, 200000)...)
	if e, name := Check(d); e != api.ErrReject || name != "C" {
		t.Errorf("Check = %v %q", e, name)
	}
}

// shuffled is a definition with the lists of which P4.3 speaks in another order.
func shuffled(d api.Def, r *rand.Rand) api.Def {
	d.Prods, d.Chains, d.Follows = slices.Clone(d.Prods), slices.Clone(d.Chains), slices.Clone(d.Follows)
	d.Rejects, d.Boxes = slices.Clone(d.Rejects), slices.Clone(d.Boxes)
	r.Shuffle(len(d.Prods), reflect.Swapper(d.Prods))
	r.Shuffle(len(d.Chains), reflect.Swapper(d.Chains))
	r.Shuffle(len(d.Follows), reflect.Swapper(d.Follows))
	r.Shuffle(len(d.Rejects), reflect.Swapper(d.Rejects))
	r.Shuffle(len(d.Boxes), reflect.Swapper(d.Boxes))
	return d
}

// byChance is a definition of a few sorts, of which some are right and some are not.
func byChance(r *rand.Rand) string {
	pick := func(list ...string) string { return list[r.Intn(len(list))] }
	text := `start E; layout W; lex W = " "; cf E.A = "a"; cf F.B = "b"; lex N = "n"; lex M = "m"; lex K = "k"; lex O = "o"; `
	for range r.Intn(4) {
		text += "cf " + pick("E", "F", "E", "F", "N") + "." + pick("C", "D", "G", "H", "I", "J") + " = "
		for range 1 + r.Intn(3) {
			text += pick("E", "F", "N", `"x"`, `"y"`, "E?", "N*", `{F ","}+`, "M+", `"z"`, `"x" E`, "W") + " "
		}
		text += ";"
	}
	for range r.Intn(3) {
		text += "lex " + pick("N", "M", "K", "O") + " = " + pick(`"x"`, "[a]", "[a]+", `"y"`) + " " + pick("N", "M", "K", "O", "[b]?", "O*", "") + ";"
	}
	for range r.Intn(3) {
		text += "reject " + pick("N", "M", "K") + " " + pick("M", "K", "O") + ";"
	}
	for range r.Intn(2) {
		text += "follow " + pick("N", "E", "O") + " " + pick("[a]", "[b]", "[c]", "[]") + ";"
	}
	for range r.Intn(2) {
		text += "prio " + pick("A", "B") + pick(" ", " > ", " > left ") + pick("A", "B", "C") + ";"
	}
	for range r.Intn(2) {
		text += "box " + pick("A", "B", "C") + " = " + pick(`"a"`, `_ "b"`, "1", `group ( 1 "x" )`) + ";"
	}
	return text
}

func TestWhatFollows(t *testing.T) {
	r := rand.New(rand.NewSource(3))
	count := map[api.Errno]int{}
	for range 20000 {
		text := byChance(r)
		d := must(t, text)
		e, name := Check(d)
		count[e]++
		if (e == api.OK) != (name == "") {
			t.Fatalf("Check(%q) = %v %q", text, e, name)
		}
		if other, _ := Check(shuffled(d, r)); (other == api.OK) != (e == api.OK) {
			t.Fatalf("Check(%q) = %v, in another order %v", text, e, other)
		}
		usesIsClosed(t, d)
		if e != api.OK {
			continue
		}
		less := []api.Def{d, d, d}
		less[0].Boxes, less[1].Chains, less[2].Rejects = nil, nil, nil
		for _, l := range less {
			if other, _ := Check(l); other != api.OK {
				t.Fatalf("Check(%q) is OK, with less %v", text, other)
			}
		}
		allDefined(t, d)
	}
	for _, code := range []api.Errno{api.OK, api.ErrMixed, api.ErrKind, api.ErrCons, api.ErrNull, api.ErrCycle, api.ErrReject, api.ErrPrio, api.ErrFollow, api.ErrBox} {
		if count[code] < 10 {
			t.Errorf("%v is told only %d times", code, count[code])
		}
	}
}

// usesIsClosed: what a sort's used sorts use it uses too.
func usesIsClosed(t *testing.T, d api.Def) {
	t.Helper()
	for _, sort := range Sorts(d) {
		used := Uses(d, sort)
		for _, other := range used {
			for _, third := range Uses(d, other) {
				if !slices.Contains(used, third) {
					t.Fatalf("%q uses %q, which uses %q: %+v", sort, other, third, d)
				}
			}
		}
	}
}

// allDefined: of what is OK each sort that is used is defined, and each production has something that may not be left out.
func allDefined(t *testing.T, d api.Def) {
	t.Helper()
	sorts := Sorts(d)
	for _, p := range d.Prods {
		least := 0
		for _, s := range p.Syms {
			if s.Name != "" && !slices.Contains(sorts, s.Name) {
				t.Fatalf("%q is not defined: %+v", s.Name, d)
			}
			if s.Kind != api.SOpt && s.Kind != api.SStar {
				least++
			}
		}
		if least == 0 {
			t.Fatalf("a production of %q may be empty: %+v", p.Sort, d)
		}
	}
}
