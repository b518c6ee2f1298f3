package tools

import (
	"strconv"
	"strings"
	"testing"

	"tracery/api"
)

// manyBans is a definition that bans about as much as one can: nearly a hundred million times.
func manyBans() string {
	text, up, down := `start E; cf E.C0 = "0"; cf E.D = "d" E?; cf E = "(" E ")" bracket; `, "prio non C0", " C0; "
	for i := 1; i < api.MaxProds-2; i++ {
		name := "C" + strconv.Itoa(i)
		text += "cf E." + name + ` = E? E? E? "x` + strconv.Itoa(i%99) + `." E? E E E E E E E; `
		if i%13 == 0 {
			up, down = up+" > non", " > non"+down
		}
		up, down = up+" "+name, " "+name+down
	}
	return text + up + "; prio non" + down + "prio D > C0;"
}

// A definition whose chains ban very much is answered soon, as long as texts are short.
func TestManyBans(t *testing.T) {
	script := `read "0"
read "d(0)"
read "d0"
read "x7.000000(0)"
read "x7.0000000"
last "x7.0000000d?"
print 80 C20(?D(?C0),-,-,-,D(-),C0,C0,C0,C0,C0,C0)
print 80 D(?C0)
search 5 100
search 9 100000
sorts`
	runs(t, manyBans(), script, "ok 1 C0", "ok 1 D(?C0)", "error 4 at 2", "ok 1 C7(-,-,-,-,C0,C0,C0,C0,C0,C0,C0)", "error 4 at 10", "ok 11", `ok "d(0)x20.d(0)(0)(0)(0)(0)(0)"`, `ok "d(0)"`, "ok exhausted 100", "ok exhausted 100000", "ok E")
}

// A great definition of which short texts need little is searched soon.
func TestGreatSearch(t *testing.T) {
	text := `start E; layout W; lex W = [\s\n]; cf E.N = N; lex N = [0-9]+; follow N [0-9]; cf E.P = E "+" E; prio left P; `
	for i := range api.MaxProds - 10 {
		text += "cf E.C" + strconv.Itoa(i) + ` = "` + strings.Repeat("z", api.MaxLit-9) + strconv.Itoa(i) + `" E? E? E? E? "q"; `
	}
	runs(t, text, "search 5 100000\nsearch 4 3", "ok exhausted 100000", "ok exhausted 3")
}

// A script of very many lines.
func TestManyLines(t *testing.T) {
	const n = 5000
	script, want := strings.Repeat("read \"1+2\"\n", n), strings.Repeat("ok 1 Add(Num(\"1\"),Num(\"2\"))\n", n)
	if have := Run(whole, script); have != want {
		t.Errorf("%d bytes, not %d: %.100q", len(have), len(want), have)
	}
}
