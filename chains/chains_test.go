package chains

import (
	"math"
	"reflect"
	"slices"
	"strings"
	"testing"

	"tracery/api"
	"tracery/defs"
	"tracery/kernel"
)

const text = `start E; cf E.A = E "a" E; cf E.B = E "b" E; cf E.C = E "c" E; cf E.D = E "d" E; cf E.N = "n"; `

func must(t *testing.T, text string) api.Def {
	t.Helper()
	d, fault := defs.Parse(text)
	if fault.Code != api.OK {
		t.Fatalf("%q: %v", text, fault)
	}
	return d
}

// What is left are the bans of the constructors that are had, and those alone.
func TestAmong(t *testing.T) {
	names := []string{"A", "B", "C", "D", "N"}
	for _, prio := range []string{"", "prio left A > right B C > non D;", "prio A > B > C > D > N; prio left D C > left B A;", "prio left A B C D; prio N > A; prio N > B; prio C;"} {
		d := must(t, text+prio)
		whole, _ := kernel.Make(d)
		for mask := range 1 << len(names) {
			has := map[string]int{"": 3}
			for i, name := range names {
				has[name] = mask >> i & 1
			}
			less := d
			less.Chains = Among(d.Chains, has)
			k, code := kernel.Make(less)
			if code != api.OK {
				t.Fatalf("%s %b: %d", prio, mask, code)
			}
			want := slices.DeleteFunc(slices.Clone(whole.Filters.Bans), func(b api.Ban) bool {
				return has[names[b.Rule]] == 0 || has[names[b.Kid]] == 0
			})
			if len(want) != len(k.Filters.Bans) || len(want) > 0 && !reflect.DeepEqual(k.Filters.Bans, want) {
				t.Errorf("%s %b: %v, not %v", prio, mask, k.Filters.Bans, want)
			}
		}
		if !defs.Same(d, must(t, text+prio)) {
			t.Error("the chains changed")
		}
	}
}

// mixed has literals that stand in one another, and all kinds of holes.
const mixed = `start E; cf E.A = "a"; cf E.Aa = "aa" E; cf E.Ab = "a" E "b" E?; cf E.L = E* "l" {E ","}+ N; cf E.O = E? "abc" N?; cf E.H = N N; cf E = "(" E ")" bracket; lex N = "n";
	prio left A Aa > right Ab > non L O H; prio H > L > A;`

// had is the constructors that chains name, each once, in their order.
func had(chains [][]api.Group) string {
	text := ""
	for _, chain := range chains {
		for _, g := range chain {
			for _, name := range g.Cons {
				if !strings.Contains(text+" ", " "+name+" ") {
					text += " " + name
				}
			}
		}
	}
	return text
}

// What is left are the constructors whose literals stand in a text.
func TestIn(t *testing.T) {
	d := must(t, mixed)
	for text, want := range map[string]string{
		"": " H", "a": " A H", "aa": " A Aa H", "b": " H", "ab": " A Ab H", "l": " L H", "abc": " A Ab O H", "aabcl": " A Aa Ab L O H", "()": " H", "a\nl": " A L H",
	} {
		if have := had(In(d, text)); have != want {
			t.Errorf("%q:%s, not%s", text, have, want)
		}
	}
}

// What is left are the constructors of which a node has no more bytes.
func TestWithin(t *testing.T) {
	d := must(t, mixed)
	for n, want := range map[int]string{math.MinInt: "", -1: "", 0: "", 1: " A", 2: " A H", 3: " A Aa Ab L O H", 9: " A Aa Ab L O H", math.MaxInt: " A Aa Ab L O H"} {
		if have := had(Within(d, n)); have != want {
			t.Errorf("%d:%s, not%s", n, have, want)
		}
	}
	if !defs.Same(d, must(t, mixed)) {
		t.Error("the definition changed")
	}
}
