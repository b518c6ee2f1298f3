package tools

import (
	"fmt"
	"math/rand"
	"slices"
	"strconv"
	"strings"
	"testing"

	"tracery/ambig"
	"tracery/api"
	"tracery/ast"
	"tracery/box"
	"tracery/check"
	"tracery/defs"
	"tracery/earley"
	"tracery/filter"
	"tracery/kernel"
	"tracery/terms"
	"tracery/words"
)

// byChance is a definition's text of a few sorts and chains; most are right.
func byChance(r *rand.Rand) string {
	pick := func(list ...string) string { return list[r.Intn(len(list))] }
	text := `start ` + pick("E", "F") + `; cf E.A = "a"; lex N = "n" | "m" N; cf F.B = "b"; lex W = ` + pick(`" "`, `[\s\n]`, `[\s]+`, `"~"`) + "; "
	if r.Intn(3) > 0 {
		text += `layout W; `
	}
	cons := []string{"A", "B"}
	for i := range 1 + r.Intn(4) {
		cons = append(cons, "C"+strconv.Itoa(i))
		text += "cf " + pick("E", "F") + ".C" + strconv.Itoa(i) + " = "
		for range 1 + r.Intn(4) {
			text += pick("E", "F", "E", "F", "N", `"x"`, `"yz"`, `"x"`, "E?", "F?", "N?", "E*", "F+", "N+", `{F ","}+`, `{E ",;"}*`) + " "
		}
		text += "; "
	}
	if r.Intn(3) > 0 {
		text += `cf E = "(" E ")" bracket; cf F = "<" F ">" bracket; `
	}
	for range r.Intn(3) {
		r.Shuffle(len(cons), func(i, j int) { cons[i], cons[j] = cons[j], cons[i] })
		text += "prio " + pick("", "left ", "right ", "non ") + strings.Join(cons[:1+r.Intn(len(cons))], pick(" ", " > ", " > left ")) + "; "
	}
	if r.Intn(3) == 0 {
		text += `follow N [nm]; `
	}
	if r.Intn(3) == 0 {
		text += `lex K = "mn"; reject N K; `
	}
	return text + pick("", "", "", "", "", "prio X;", "start E;", "cf E.A = E;", "x")
}

// grow is a text of a nonterminal by chance.
func grow(r *rand.Rand, g api.Gram, short []int, nt, fuel int) string {
	var rules []api.Rule
	for _, rule := range g.Rules {
		if rule.Lhs == nt {
			rules = append(rules, rule)
		}
	}
	rule := rules[r.Intn(len(rules))]
	if fuel <= 0 {
		rule = slices.MinFunc(rules, func(a, b api.Rule) int { return need(short, a) - need(short, b) })
	}
	text := ""
	for _, s := range rule.Rhs {
		if s.Nt >= 0 {
			text += grow(r, g, short, s.Nt, fuel-1)
			continue
		}
		for b := range 256 {
			if s.Set[b/64]>>(b%64)&1 == 1 {
				text += string([]byte{byte(b)})
				break
			}
		}
	}
	return text
}

// need is how deep a rule's least tree is, short being that of each nonterminal.
func need(short []int, rule api.Rule) int {
	deep := 0
	for _, s := range rule.Rhs {
		if s.Nt >= 0 {
			deep = max(deep, short[s.Nt])
		}
	}
	return deep + 1
}

// leastDeep is of each nonterminal how deep its least tree is.
func leastDeep(g api.Gram) []int {
	short := slices.Repeat([]int{1 << 20}, g.Nts)
	for range g.Nts + 1 {
		for _, rule := range g.Rules {
			short[rule.Lhs] = min(short[rule.Lhs], need(short, rule))
		}
	}
	return short
}

// language is a definition by chance, as the chapter's words have it.
type language struct {
	text string
	k    api.Kern
}

// slowLine is the chapter's words of a line that is right.
func (x language) slowLine(key, handed string, n, budget int) string {
	w, _ := words.Unquote(handed)
	switch key {
	case "read":
		list, code := filter.Trees(x.k.Gram, x.k.Filters, w, api.MaxTrees)
		switch {
		case code != api.OK:
			return fmt.Sprintf("error %d\n", code)
		case len(list) == 0:
			last, _ := earley.Last(x.k.Gram, w)
			return fmt.Sprintf("error 4 at %d\n", last)
		}
		count, _ := filter.Count(x.k.Gram, x.k.Filters, w)
		term, _ := ast.Implode(x.k.Def, list[0])
		text, code := terms.Print(term)
		if code != api.OK {
			return fmt.Sprintf("error %d\n", code)
		}
		return fmt.Sprintf("ok %d %s\n", count, text)
	case "last":
		last, code := earley.Last(x.k.Gram, w)
		if code != api.OK {
			return fmt.Sprintf("error %d\n", code)
		}
		return fmt.Sprintf("ok %d\n", last)
	case "print":
		term, fault := terms.Parse(handed)
		if fault.Code != api.OK {
			return fmt.Sprintf("error %d at %d\n", fault.Code, fault.At)
		}
		text, code := box.Print(x.k.Def, term, n)
		if code != api.OK {
			return fmt.Sprintf("error %d at 0\n", code)
		}
		return fmt.Sprintf("ok %s\n", words.Quote([]byte(text)))
	case "search":
		f, code := ambig.Search(x.k.Gram, x.k.Filters, n, budget)
		if code != api.OK {
			return fmt.Sprintf("error %d\n", code)
		}
		return "ok " + []string{"none", "witness " + words.Quote(f.Word), "exhausted"}[f.Kind] + fmt.Sprintf(" %d\n", f.Tried)
	}
	return "ok " + strings.Join(check.Sorts(x.k.Def), " ") + "\n"
}

// anyLine is a line that is right, and its answer.
func (x language) anyLine(r *rand.Rand, short []int) (string, string) {
	text := grow(r, x.k.Gram, short, x.k.Gram.Start, r.Intn(9))
	if len(text) > 40 {
		text = text[:r.Intn(40)]
	}
	switch r.Intn(3) {
	case 0:
		text = text[:r.Intn(len(text)+1)] + []string{"n", "mn", "a", "x", "?", " "}[r.Intn(6)] + text[r.Intn(len(text)+1):]
	}
	quoted := words.Quote([]byte(text))
	switch r.Intn(6) {
	case 0:
		return "last " + quoted, x.slowLine("last", quoted, 0, 0)
	case 1:
		width, term := r.Intn(20), `C0(A,?"n")`
		if list, _ := filter.Trees(x.k.Gram, x.k.Filters, []byte(text), 1); len(list) > 0 {
			t, _ := ast.Implode(x.k.Def, list[0])
			term, _ = terms.Print(t)
		}
		return fmt.Sprintf("print %d %s", width, term), x.slowLine("print", term, width, 0)
	case 2:
		n, budget := r.Intn(4), r.Intn(200)
		return fmt.Sprintf("search %d %d", n, budget), x.slowLine("search", "", n, budget)
	case 3:
		return "sorts", x.slowLine("sorts", "", 0, 0)
	}
	return "read " + quoted, x.slowLine("read", quoted, 0, 0)
}

// P18.1 to P18.5 of definitions and scripts by chance, by the layers below with all that a definition's filters have.
func TestByLayers(t *testing.T) {
	r := rand.New(rand.NewSource(18))
	kinds := map[string]int{}
	for range 1500 {
		text := byChance(r)
		d, fault := defs.Parse(text)
		code, name := check.Check(d)
		if fault.Code != api.OK || code != api.OK {
			if fault.Code == api.OK {
				fault = api.Fault{Code: code}
			} else {
				name = ""
			}
			l, have, called := Load(text)
			want := strings.TrimSuffix(fmt.Sprintf("error %d at %d %s", fault.Code, fault.At, name), " ") + "\n"
			if l != nil || have != fault || called != name || Run(text, "sorts") != want {
				t.Fatalf("%s: %v %q, %q", text, have, called, Run(text, "sorts"))
			}
			kinds["refused"]++
			continue
		}
		k, _ := kernel.Make(d)
		x, short := language{text, k}, leastDeep(k.Gram)
		var script, want string
		for range 8 {
			line, answer := x.anyLine(r, short)
			script, want = script+line+"\n", want+answer
			kinds[strings.Fields(line)[0]+" "+strings.Fields(answer)[0]]++
		}
		if have := Run(text, script); have != want {
			t.Fatalf("%s\n%s\n%s\n, not\n%s", text, script, have, want)
		}
	}
	for _, kind := range []string{"refused", "read ok", "read error", "last ok", "print ok", "print error", "search ok", "sorts ok"} {
		if kinds[kind] < 50 {
			t.Errorf("%s: %v", kind, kinds)
		}
	}
}

// some is languages by chance, and texts of each that are mostly read.
func some(t *testing.T, seed int64, rounds int, look func(r *rand.Rand, l *Lang, texts []string)) {
	t.Helper()
	r := rand.New(rand.NewSource(seed))
	for range rounds {
		text := byChance(r)
		l, _, _ := Load(text)
		if l == nil {
			continue
		}
		short := leastDeep(l.gram)
		var texts []string
		for range 6 {
			w := grow(r, l.gram, short, l.gram.Start, r.Intn(8))
			texts = append(texts, w[:min(len(w), 40)])
		}
		look(r, l, texts)
	}
}

// P18.6, P6: what is printed is read as what was printed, if it has one tree alone.
func TestPrintedIsRead(t *testing.T) {
	count := 0
	some(t, 6, 600, func(r *rand.Rand, l *Lang, texts []string) {
		for _, w := range texts {
			a, code := l.Read([]byte(w))
			if code != api.OK {
				continue
			}
			term, _ := terms.Print(a.Term)
			for _, width := range []int{0, r.Intn(20), 99} {
				printed, fault := l.Print(term, width)
				if fault != (api.Fault{}) {
					continue
				}
				back, code := l.Read([]byte(printed))
				if code != api.OK || back.Last != len(printed) || back.Count == 1 && !terms.Same(back.Term, a.Term) {
					t.Fatalf("%+v: %q was printed of %s", l.def, printed, term)
				}
				count++
			}
		}
	})
	if count < 500 {
		t.Errorf("only %d were printed", count)
	}
}

// P18.7: a text that is read has its Last at its end; a beginning that is told as Last is one for each text that begins so.
func TestLast(t *testing.T) {
	read, not := 0, 0
	some(t, 7, 400, func(r *rand.Rand, l *Lang, texts []string) {
		for _, w := range texts {
			if r.Intn(2) == 0 {
				w = w[:r.Intn(len(w)+1)] + "?" + w
			}
			a, code := l.Read([]byte(w))
			if code == api.OK {
				read++
				if a.Last != len(w) || a.Count < 1 {
					t.Fatalf("%+v: %q: %+v", l.def, w, a)
				}
				continue
			}
			not++
			if code != api.ErrNone || a.Count != 0 || a.Last < -1 || a.Last > len(w) || !terms.Same(a.Term, api.Term{}) {
				t.Fatalf("%+v: %q: %+v %d", l.def, w, a, code)
			}
			if a.Last < 0 {
				continue
			}
			for _, rest := range []string{"", "\xff", "\xff" + w, w[a.Last:]} {
				if have, _ := earley.Last(l.gram, []byte(w[:a.Last]+rest)); have < a.Last || rest != "" && rest[0] == '\xff' && have != a.Last {
					t.Fatalf("%+v: %q has Last %d, %q has %d", l.def, w, a.Last, w[:a.Last]+rest, have)
				}
			}
		}
	})
	if read < 300 || not < 300 {
		t.Errorf("%d are read, %d not", read, not)
	}
}

// P8: behind a search that found no text with two trees each text has one at most, and what is printed is read as just itself.
func TestUniqueness(t *testing.T) {
	none := 0
	some(t, 8, 600, func(r *rand.Rand, l *Lang, texts []string) {
		const n = 4
		x, code := l.Search(n, 100000)
		if code != api.OK {
			t.Fatal(code)
		}
		if x.Kind == api.QWitness {
			if a, code := l.Read(x.Word); code != api.OK || a.Count < 2 {
				t.Fatalf("%+v: %q is no witness: %+v", l.def, x.Word, a)
			}
		}
		if x.Kind != api.QNone {
			return
		}
		none++
		for _, w := range texts {
			w = w[:min(len(w), n)]
			a, code := l.Read([]byte(w))
			if a.Count > 1 {
				t.Fatalf("%+v: %q has %d trees", l.def, w, a.Count)
			}
			if code != api.OK {
				continue
			}
			term, _ := terms.Print(a.Term)
			if printed, fault := l.Print(term, 99); fault.Code == api.OK && len(printed) <= n {
				if back, _ := l.Read([]byte(printed)); back.Count != 1 || !terms.Same(back.Term, a.Term) {
					t.Fatalf("%+v: %q is read as %+v", l.def, printed, back)
				}
			}
		}
	})
	if none < 30 {
		t.Errorf("only %d have none", none)
	}
}

// Any bytes as a definition and as a script: there is a line for each line with bytes, or one line.
func TestAnyScripts(t *testing.T) {
	r := rand.New(rand.NewSource(9))
	parts := []string{"read", "last", "print", "search", "sorts", " ", "  ", "\n", "\n\n", `"1+2"`, `"1`, `"`, "9", "07", "1000000", `N("1")`, `A(N("1"),N("2"))`, "(", "\r", "\t", "\x00", "\xff", "-", "3", "99", "x"}
	for range 3000 {
		script := ""
		for range r.Intn(20) {
			script += parts[r.Intn(len(parts))]
			if r.Intn(2) == 0 {
				script += " "
			}
		}
		want := 0
		for _, line := range strings.Split(script, "\n") {
			if line != "" {
				want++
			}
		}
		have := Run(small, script)
		if strings.Count(have, "\n") != want || have != "" && !strings.HasSuffix(have, "\n") {
			t.Fatalf("%q: %q", script, have)
		}
		for _, line := range strings.Split(strings.TrimSuffix(have, "\n"), "\n") {
			if want > 0 && !strings.HasPrefix(line, "ok ") && !strings.HasPrefix(line, "error ") {
				t.Fatalf("%q: %q", script, have)
			}
		}
		if have := Run(script, small); strings.Count(have, "\n") != 1 || !strings.HasPrefix(have, "error ") {
			t.Fatalf("%q: %q", script, have)
		}
	}
}
