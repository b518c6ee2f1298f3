package chains

import (
	"reflect"
	"slices"
	"testing"

	"tracery/api"
	"tracery/defs"
	"tracery/kernel"
)

const text = `start E; cf E.A = E "a" E; cf E.B = E "b" E; cf E.C = E "c" E; cf E.D = E "d" E; cf E.N = "n"; `

func must(t *testing.T, text string) api.Def {
	t.Helper()
	d, fault := defs.Parse(text)
	if fault.Code != api.OK {
		t.Fatalf("%q: %v", text, fault)
	}
	return d
}

// What is left are the bans of the constructors that are had, and those alone.
func TestAmong(t *testing.T) {
	names := []string{"A", "B", "C", "D", "N"}
	for _, prio := range []string{"", "prio left A > right B C > non D;", "prio A > B > C > D > N; prio left D C > left B A;", "prio left A B C D; prio N > A; prio N > B; prio C;"} {
		d := must(t, text+prio)
		whole, _ := kernel.Make(d)
		for mask := range 1 << len(names) {
			has := map[string]int{"": 3}
			for i, name := range names {
				has[name] = mask >> i & 1
			}
			less := d
			less.Chains = Among(d.Chains, has)
			k, code := kernel.Make(less)
			if code != api.OK {
				t.Fatalf("%s %b: %d", prio, mask, code)
			}
			want := slices.DeleteFunc(slices.Clone(whole.Filters.Bans), func(b api.Ban) bool {
				return has[names[b.Rule]] == 0 || has[names[b.Kid]] == 0
			})
			if len(want) != len(k.Filters.Bans) || len(want) > 0 && !reflect.DeepEqual(k.Filters.Bans, want) {
				t.Errorf("%s %b: %v, not %v", prio, mask, k.Filters.Bans, want)
			}
		}
		if !defs.Same(d, must(t, text+prio)) {
			t.Error("the chains changed")
		}
	}
}
