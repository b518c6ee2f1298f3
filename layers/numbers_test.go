package layers

import (
	"testing"

	"tracery/api"
)

func TestLimits(t *testing.T) {
	for name, c := range map[string][2]int{
		"MaxText": {api.MaxText, 65536}, "MaxName": {api.MaxName, 32}, "MaxLit": {api.MaxLit, 32},
		"MaxProds": {api.MaxProds, 200}, "MaxSyms": {api.MaxSyms, 12}, "MaxOmit": {api.MaxOmit, 4},
		"MaxRhs": {api.MaxRhs, 80}, "MaxNts": {api.MaxNts, 4096}, "MaxRules": {api.MaxRules, 8192},
		"MaxInput": {api.MaxInput, 512}, "MaxGroups": {api.MaxGroups, 16}, "MaxItems": {api.MaxItems, 64},
		"MaxNest": {api.MaxNest, 200}, "MaxTrees": {api.MaxTrees, 1000}, "MaxCount": {api.MaxCount, 1 << 62},
	} {
		if c[0] != c[1] {
			t.Errorf("%s is %d", name, c[0])
		}
	}
}

func TestErrors(t *testing.T) {
	for want, group := range map[api.Errno][]api.Errno{
		0:   {api.OK, api.ErrArg, api.ErrLong, api.ErrForm, api.ErrNone},
		10:  {api.ErrRange, api.ErrByte, api.ErrEscape, api.ErrOpen, api.ErrShort, api.ErrRest},
		20:  {api.ErrName, api.ErrNumber},
		30:  {api.ErrWord, api.ErrTwice},
		40:  {api.ErrStart, api.ErrLayout, api.ErrMixed, api.ErrUndefined, api.ErrKind, api.ErrCons, api.ErrBracket, api.ErrNull, api.ErrCycle, api.ErrReject},
		50:  {api.ErrPrio, api.ErrFollow, api.ErrBox, api.ErrDef},
		90:  {api.ErrTree},
		100: {api.ErrBan, api.ErrFoll, api.ErrRej},
		110: {api.ErrTerm},
		120: {api.ErrSort, api.ErrLex},
		130: {api.ErrNeed},
		140: {api.ErrDoc},
		150: {api.ErrPrint},
		160: {api.ErrGap},
	} {
		for i, e := range group {
			if e != want+api.Errno(i) {
				t.Errorf("error %d of %d is %d", i, want, e)
			}
		}
	}
	if (api.Fault{}) != (api.Fault{At: 0, Code: api.OK}) {
		t.Error("the zero Fault is another one")
	}
}
