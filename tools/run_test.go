package tools

import (
	"strconv"
	"strings"
	"testing"

	"tracery/api"
	"tracery/words"
)

// runs holds a script's answer against lines.
func runs(t *testing.T, def, script string, lines ...string) {
	t.Helper()
	want := ""
	for _, line := range lines {
		want += line + "\n"
	}
	if have := Run(def, script); have != want {
		t.Errorf("%.80q: %.300q, not %.300q", script, have, want)
	}
}

// The chapter's examples.
func TestExamples(t *testing.T) {
	runs(t, small, "read \"1+2+3\"\nread \"1+\"\nprint 9 N(\"7\")\nsearch 3 99\nsorts\nfoo", `ok 1 A(A(N("1"),N("2")),N("3"))`, "error 4 at 2", `ok "7"`, "ok none 15", "ok E N", "error 3")
}

// The document's ten examples of the whole.
func TestTenExamples(t *testing.T) {
	for script, want := range map[string]string{
		`read "1+2*3"`:   `ok 1 Add(Num("1"),Mul(Num("2"),Num("3")))`,
		`read "1+2+3"`:   `ok 1 Add(Add(Num("1"),Num("2")),Num("3"))`,
		`read "(1+2)*3"`: `ok 1 Mul(Add(Num("1"),Num("2")),Num("3"))`,
		`read "12"`:      `ok 1 Num("12")`,
		`read "1+"`:      `error 4 at 2`,
		`read "1 2"`:     `error 4 at 2`,
		`print 80 Mul(Add(Num("1"),Num("2")),Num("3"))`: `ok "(1 + 2) * 3"`,
		`print 80 Num("x")`:                             `error 121 at 0`,
		`last "1+x"`:                                    `ok 2`,
		`sorts`:                                         `ok E N W`,
	} {
		runs(t, whole, script, want)
	}
}

// P18.4: what Load refuses is told in one line, whatever the script.
func TestRunRefused(t *testing.T) {
	for def, want := range map[string]string{
		"start E; cf E.A = E;": "error 48 at 0 E", "start E; cf E.A = F;": "error 43 at 0 F", "": "error 40 at 0", "start E;": "error 40 at 0 E", "lex A = ;": "error 30 at 8", "start A; start B;": "error 31 at 9",
		strings.Repeat(" ", api.MaxText+1): "error 2 at 0", "lex A = [z-a];": "error 10 at 9", `start E; cf E.A = "a"; prio Long1;`: "error 50 at 0 Long1",
	} {
		for _, script := range []string{"", "sorts", "\n\n", "foo\nsorts\n", strings.Repeat("\n", api.MaxText), strings.Repeat("\n", api.MaxText+1)} {
			runs(t, def, script, want)
		}
	}
}

// Scripts without lines, with empty ones, with a last line that is not ended.
func TestLines(t *testing.T) {
	runs(t, small, "")
	runs(t, small, "\n")
	runs(t, small, "\n\n\n")
	runs(t, small, "sorts", "ok E N")
	runs(t, small, "sorts\n", "ok E N")
	runs(t, small, "\n\nsorts\n\n\n", "ok E N")
	runs(t, small, "sorts\n\nsorts", "ok E N", "ok E N")
	runs(t, small, "sorts\nsorts\n", "ok E N", "ok E N")
	runs(t, small, " \n\r\n\t", "error 3", "error 3", "error 3")
	runs(t, small, "\x00\n\xff\xfe\n\xc3\xa9", "error 3", "error 3", "error 3")
}

// Scripts of MaxText bytes and of one more.
func TestLongScripts(t *testing.T) {
	runs(t, small, strings.Repeat("\n", api.MaxText))
	runs(t, small, strings.Repeat("\n", api.MaxText-5)+"sorts", "ok E N")
	runs(t, small, strings.Repeat("\n", api.MaxText-4)+"sorts", "error 2")
	runs(t, small, strings.Repeat("\n", api.MaxText+1), "error 2")
	runs(t, small, strings.Repeat("x", api.MaxText), "error 3")
	runs(t, small, strings.Repeat("x", api.MaxText+1), "error 2")
	runs(t, small, strings.Repeat("sorts\n", 1<<20), "error 2")
	// a text, a term and a line as long as they can be
	runs(t, small, `read "`+strings.Repeat("1", api.MaxText-7)+`"`, "error 2")
	runs(t, small, `last "`+strings.Repeat("1", api.MaxText-7)+`"`, "error 2")
	runs(t, small, `last "`+strings.Repeat("1", api.MaxText-6)+`"`, "error 2")
	runs(t, small, `print 9 N("7"`+strings.Repeat(" ", api.MaxText-14)+`)`, `ok "7"`)
	lines := strings.Split(strings.Repeat("ok E N\n", api.MaxText/6), "\n")
	runs(t, small, strings.Repeat("sorts\n", api.MaxText/6), lines[:len(lines)-1]...)
}

// Each key with what it is handed, and with what it may not be handed.
func TestForms(t *testing.T) {
	for line, want := range map[string]string{
		`read "1"`: `ok 1 N("1")`, `last "1"`: "ok 1", `print 9 N("1")`: `ok "1"`, `search 1 9`: "ok none 3", `sorts`: "ok E N",
		// too little
		`read`: "error 3", `read `: "error 3", `last`: "error 3", `last `: "error 3", `print`: "error 3", `print `: "error 3", `print 9`: "error 3", `print N("1")`: "error 3", `search`: "error 3", `search `: "error 3", `search 1`: "error 3", `search 1 `: "error 3",
		// too much
		`read "1" `: "error 3", `read "1" "2"`: "error 3", `read "1"x`: "error 3", `last "1" `: "error 3", `last "1" 2`: "error 3", `search 1 9 9`: "error 3", `search 1 9 `: "error 3", `sorts `: "error 3", `sorts E`: "error 3", `sorts  `: "error 3",
		// two blanks, other blanks
		`read  "1"`: "error 3", `last  "1"`: "error 3", `print  9 N("1")`: "error 3", `search  1 9`: "error 3", `search 1  9`: "error 3", ` sorts`: "error 3", ` read "1"`: "error 3", "read\t\"1\"": "error 3", "search 1\t9": "error 3", "print\t9 N(\"1\")": "error 3", "print 9\tN(\"1\")": "error 3",
		// a byte 13
		"read \"1\"\r": "error 3", "last \"1\"\r": "error 3", "search 1 9\r": "error 3", "sorts\r": "error 3", "\r": "error 3", "print 9\r N(\"1\")": "error 3",
		// a term's text has blanks ahead and behind by its own rules
		`print 9 N("1") `: `ok "1"`, `print 9  N("1")`: `ok "1"`, "print 9 N(\"1\")\r": `ok "1"`, "print 9 \tN ( \"1\" )": `ok "1"`, `print 9 `: "error 14 at 0", `print 9  `: "error 14 at 1",
		`print 9 N("1") N`: "error 15 at 7", `print 9 N(`: "error 14 at 2", `print 9 n`: "error 11 at 0", `print 9 N("\q")`: "error 12 at 3", `print 9 N("1)`: "error 13 at 2", `print 9 N(1)`: "error 11 at 2",
		// keys that are none
		`foo`: "error 3", `Read "1"`: "error 3", `READ "1"`: "error 3", `readx "1"`: "error 3", `rea "1"`: "error 3", `read"1"`: "error 3", `sort`: "error 3", `sortss`: "error 3", `"1"`: "error 3", `9`: "error 3", `#`: "error 3", `sorts;`: "error 3", `load "a"`: "error 3",
		// texts that are none
		`read 1`: "error 3", `read "1`: "error 3", `read 1"`: "error 3", `read '1'`: "error 3", `read "\q"`: "error 3", `read "\x1"`: "error 3", `read "\x1g"`: "error 3", "read \"\t\"": "error 3", "read \"\xff\"": "error 3", `read "`: "error 3", `read """`: "error 3", `last "\"`: "error 3", `last x`: "error 3", "last \"\x7f\"": "error 3",
		// and such that are
		`read ""`: "error 4 at 0", `last ""`: "ok 0", `read "\x31"`: `ok 1 N("1")`, `read "\x2B"`: "error 4 at 0", `read "1\x2b2"`: `ok 1 A(N("1"),N("2"))`, `last "1\n"`: "ok 1", `last "\\"`: "ok 0", `read "1\""`: "error 4 at 1", `read "1+\xff"`: "error 4 at 2",
	} {
		runs(t, small, line, want)
		runs(t, small, "\n"+line+"\n", want)
	}
}

// Numbers of no digit, one, six and seven, and with a 0 ahead.
func TestNumbers(t *testing.T) {
	for text, isOne := range map[string]bool{
		"": false, "0": true, "1": true, "9": true, "10": true, "99999": true, "100000": true, "999999": true, "1000000": false, "0000001": false, "00": false, "01": false, "000000": false, "012345": false,
		"-1": false, "-0": false, "+1": false, "1.0": false, "1e3": false, "0x1": false, "1_000": false, "a": false, "1a": false, "a1": false, "99999999999999999999": false, "\x31\x00": false, "\xd9\xa1": false, "1,0": false,
	} {
		print, search, budget := "error 3", "error 3", "error 3"
		if isOne {
			n, _ := strconv.Atoi(text)
			print, search, budget = `ok "1"`, "ok exhausted 0", "ok none 1"
			if n > api.MaxInput {
				search = "error 1"
			}
			switch {
			case n == 0:
				budget = "ok exhausted 0"
			case n > 100000:
				budget = "error 1"
			}
		}
		runs(t, small, "print "+text+` N("1")`, print)
		runs(t, small, "search "+text+" 0", search)
		runs(t, small, "search 0 "+text, budget)
	}
}

// P18.4: what each key's answer is.
func TestAnswers(t *testing.T) {
	const three = `start E; cf E.A = E "+" E; cf E.N = N; lex N = [0-9\n\x80"]; prio left A;`
	for _, c := range [][3]string{
		{loose, `read "1+2+3"`, `ok 2 A(N("1"),A(N("2"),N("3")))`}, {loose, `read "1+2+"`, "error 4 at 4"}, {never, `read "a"`, "error 4 at -1"}, {never, `read ""`, "error 4 at -1"}, {names, `read "if"`, "error 4 at 2"},
		{never, `last "a"`, "ok -1"}, {never, `last ""`, "ok -1"}, {small, `last "1+2"`, "ok 3"}, {small, `last "+"`, "ok 0"}, {names, `last "if"`, "ok 2"},
		{three, `read "\n+\x80"`, `ok 1 A(N("\n"),N("\x80"))`}, {three, `print 9 A(N("\x80"),N("\""))`, `ok "\x80+\""`}, {three, `print 9 N("\n")`, "error 140 at 0"}, {three, `last "\n+\n"`, "ok 3"},
		{whole, `print 3 Add(Num("1"),Num("2"))`, `ok "1\n+\n2"`}, {whole, `print 0 Num("1")`, `ok "1"`}, {whole, `print 9 Mul(Num("1"))`, "error 120 at 0"}, {small, `print 9 A(N("1"),A(N("2"),N("3")))`, "error 130 at 0"}, {names, `print 9 Id("if")`, "error 150 at 0"}, {names, `print 9 Id("I")`, "error 121 at 0"},
		{small, "search 3 99", "ok none 15"}, {small, "search 3 14", "ok exhausted 14"}, {loose, "search 9 999", `ok witness "0+0+0" 53`}, {loose, "search 5 52", "ok exhausted 52"}, {small, "search 513 1", "error 1"}, {small, "search 512 0", "ok exhausted 0"}, {small, "search 1 100001", "error 1"}, {small, "search 1 100000", "ok none 3"},
		{`start E; layout W; cf E.A = E E; cf E.B = "\xff"; lex W = [\n];`, "search 3 100", `ok witness "\xff\xff\xff" 15`}, {`start E; cf E.A = N; cf E.B = M; lex N = ["\n]; lex M = [\n];`, "search 3 100", `ok witness "\n" 2`},
		{small, "sorts", "ok E N"}, {never, "sorts", "ok E"}, {names, "sorts", "ok E I K W"},
	} {
		runs(t, c[0], c[1], c[2])
	}
	long := strings.Repeat("1+", api.MaxInput/2)
	runs(t, loose, `last "`+long+`"`, "ok "+strconv.Itoa(api.MaxInput))
	runs(t, loose, `last "`+long+`1"`, "error 2")
	runs(t, loose, `read "`+long+`1"`, "error 2")
	runs(t, loose, `read "`+long[1:]+`"`, "error 4 at 0")
	runs(t, small, `read "`+long+`"`, "error 4 at "+strconv.Itoa(api.MaxInput))
}

// A term that is too long, or too deep, to be written.
func TestUnwrittenTerms(t *testing.T) {
	deep := `start E; cf E.A = "a" E; cf E.B = "b";`
	runs(t, deep, `read "`+strings.Repeat("a", api.MaxNest-1)+`b"`, "ok 1 "+strings.Repeat("A(", api.MaxNest-1)+"B"+strings.Repeat(")", api.MaxNest-1))
	runs(t, deep, `read "`+strings.Repeat("a", api.MaxNest)+`b"`, "error 110")
	name := "C" + strings.Repeat("c", api.MaxName-2)
	wide := "start E; cf E.Z = E0+; cf E0." + name + `0 = E1; cf E1.` + name + `1 = E2; cf E2.` + name + `2 = E3; cf E3.` + name + `3 = "x"; cf E3.Short = "y";`
	one := name + "0(" + name + "1(" + name + "2(" + name + "3)))"
	n := (api.MaxText - len("Z([])") + 1) / (len(one) + 1)
	if n >= api.MaxInput {
		t.Fatal(n)
	}
	runs(t, wide, `read "`+strings.Repeat("x", n)+`"`, "ok 1 Z(["+strings.Repeat(one+",", n-1)+one+"])")
	runs(t, wide, `read "`+strings.Repeat("x", n+1)+`"`, "error 2")
	runs(t, wide, "read \""+strings.Repeat("x", api.MaxInput)+"\"\nsorts", "error 2", "ok E E0 E1 E2 E3")
}

// P18.5: a script's answer is its lines' answers, one by one.
func TestLinesOneByOne(t *testing.T) {
	lines := []string{`read "1+2+3"`, "foo", `print 9 N("7")`, "", `read "1+"`, `search 3 99`, `sorts`, `last "1+x"`, ` `, `read "1+2+3"`, `print 9 N("x")`, "search 513 1", `read "`}
	for def := range map[string]int{small: 0, loose: 0, never: 0, names: 0, whole: 0} {
		for from := range lines {
			want := ""
			for _, line := range lines[from:] {
				want += Run(def, line)
			}
			if have := Run(def, strings.Join(lines[from:], "\n")); have != want {
				t.Errorf("%q, not %q", have, want)
			}
		}
	}
}

// What is quoted in an answer can be handed to another line.
func TestAnswersAsLines(t *testing.T) {
	breaks := strings.Replace(names, `[\s]`, `[\s\n]`, 1)
	for def, term := range map[string]string{whole: `Mul(Add(Num("1"),Num("23")),Mul(Num("4"),Num("5")))`, breaks: `Two(If(Id("ab")),Id("c"))`, small: `A(A(N("1"),N("2")),N("3"))`} {
		for _, width := range []string{"0", "3", "80"} {
			printed := Run(def, "print "+width+" "+term)
			text, is := strings.CutPrefix(strings.TrimSuffix(printed, "\n"), "ok ")
			if _, fault := words.Unquote(text); !is || fault.Code != api.OK {
				t.Fatalf("%s: %q", term, printed)
			}
			runs(t, def, "read "+text, "ok 1 "+term)
		}
	}
}

// FuzzRun: whatever the definition and the script, there is a line for each line with bytes, and no line hangs on another.
func FuzzRun(f *testing.F) {
	for _, def := range []string{small, whole, loose, never, names} {
		f.Add(def, "read \"1+2\"\nlast \"1+x\"\n\nprint 9 N(\"7\")\nsearch 2 9\nsorts\nfoo")
	}
	f.Fuzz(func(t *testing.T, def, script string) {
		have := Run(def, script)
		if l, _, _ := Load(def); l == nil || len(script) > api.MaxText {
			if strings.Count(have, "\n") != 1 || !strings.HasPrefix(have, "error ") {
				t.Errorf("%q", have)
			}
			return
		}
		want := ""
		for _, line := range strings.Split(script, "\n") {
			if answer := Run(def, line); strings.Count(answer, "\n") == min(1, len(line)) {
				want += answer
			}
		}
		if have != want {
			t.Errorf("%q, not %q", have, want)
		}
	})
}
