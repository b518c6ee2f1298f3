package kernel

import (
	"strconv"
	"strings"
	"testing"

	"tracery/api"
)

// banTexts is each ban as its Rule, Pos and Kid with a / between.
func banTexts(k api.Kern) []string {
	var list []string
	for _, b := range k.Filters.Bans {
		list = append(list, strconv.Itoa(b.Rule)+"/"+strconv.Itoa(b.Pos)+"/"+strconv.Itoa(b.Kid))
	}
	return list
}

const barProds = `start E; cf E.Bin = E "+" E; cf E.Pre = "-" E; cf E.Post = E "!"; cf E.Mid = "[" E? "]" ; cf E.Num = "n"; cf F.One = E; cf F.Two = E E* E?; `

func TestBars(t *testing.T) {
	// rules: 0 Bin, 1 Pre, 2 Post, 3 and 4 Mid (4 has the E), 5 Num, 6 One, 7 to 10 Two (7 E, 8 E E+, 9 E E, 10 E E+ E)
	for _, c := range []struct{ text, want string }{
		{``, ``},
		{`prio Bin;`, ``}, {`prio Bin Pre Post Mid Num One Two;`, ``}, {`prio left Num; prio right Num; prio non Num;`, ``},
		{`prio left Bin;`, `0/2/0`}, {`prio right Bin;`, `0/0/0`}, {`prio non Bin;`, `0/0/0 0/2/0`},
		{`prio left Pre;`, `1/1/1`}, {`prio right Pre;`, ``}, {`prio non Pre;`, `1/1/1`},
		{`prio left Post;`, ``}, {`prio right Post;`, `2/0/2`}, {`prio non Post;`, `2/0/2`},
		{`prio left Mid;`, ``}, {`prio right Mid;`, ``}, {`prio non Mid;`, ``},
		{`prio Mid > Num;`, `4/1/5`}, {`prio Num > Mid;`, ``}, {`prio Pre > Mid;`, `1/1/3 1/1/4`},
		{`prio Bin > Num;`, `0/0/5 0/2/5`}, {`prio Num > Bin;`, ``},
		{`prio left Bin Num;`, `0/2/0 0/2/5`}, {`prio right Num Bin;`, `0/0/0 0/0/5`},
		{`prio Pre > Post > Num;`, `1/1/2 1/1/5 2/0/5`}, {`prio Pre > Post; prio Post > Num;`, `1/1/2 2/0/5`},
		{`prio left Pre > non Post;`, `1/1/1 1/1/2 2/0/2`},
		{`prio Pre > Post; prio Post > Pre;`, `1/1/2 2/0/1`},
		{`prio left Bin; prio right Bin; prio left Bin; prio Num > Bin;`, `0/0/0 0/2/0`},
		{`prio Bin > Num; prio left Bin Num;`, `0/0/5 0/2/0 0/2/5`},
		{`prio One > Num;`, `6/0/5`}, {`prio left One Num;`, `6/0/5`}, {`prio right One Num;`, `6/0/5`}, {`prio non One Num;`, `6/0/5`},
		{`prio Num > One;`, ``}, {`prio Bin > One > Two;`, ``}, {`prio One Num;`, ``}, {`prio left One;`, ``},
		{`prio Two > Num;`, `7/0/5 8/0/5 9/0/5 9/1/5 10/0/5 10/2/5`},
		{`prio left Two Num;`, `9/1/5 10/2/5`}, {`prio right Two Num;`, `7/0/5 8/0/5 9/0/5 10/0/5`},
		{`prio Pre > Num > Bin;`, `1/1/0 1/1/5`}, {`prio Num Pre > One > Bin Num2;`, `1/1/0 1/1/11 6/0/0 6/0/11`},
	} {
		k := made(t, barProds+`cf E.Num2 = "m"; `+c.text)
		equal(t, c.text, banTexts(k), strings.Fields(c.want))
	}
}

// The places of a rule are counted with its gaps and bytes.
func TestBarsWithGaps(t *testing.T) {
	k := made(t, `start E; layout W; lex W = "w"; cf E.A = "if" E? "then" E; cf E.N = "n"; prio left A > N;`)
	equal(t, "Bans", banTexts(k), strings.Fields(`1/8/1 1/8/2 1/8/3 2/3/3 2/10/1 2/10/2 2/10/3`))
}
