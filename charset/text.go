package charset

import (
	"strings"

	"tracery/api"
	"tracery/escape"
)

// The short signs of sets.
const (
	letters = `ntrs[]\-^`
	said    = "\n\t\r []\\-^"
)

// Print is a set's text.
func Print(s api.Set) string {
	var text strings.Builder
	text.WriteByte('[')
	for _, run := range Runs(s) {
		text.WriteString(sign(run.Lo))
		if run.Hi > run.Lo+1 {
			text.WriteByte('-')
		}
		if run.Hi > run.Lo {
			text.WriteString(sign(run.Hi))
		}
	}
	text.WriteByte(']')
	return text.String()
}

// sign is the sign of the byte b.
func sign(b int) string {
	if c := byte(b); !isPlain(c) {
		return escape.Write(c, letters, said)
	}
	return string(rune(b))
}

// isPlain tells whether a byte is its own sign.
func isPlain(c byte) bool {
	return 33 <= c && c <= 126 && strings.IndexByte(said, c) < 0
}

// Parse reads a set's text.
func Parse(text string) (api.Set, api.Fault) {
	if len(text) > api.MaxText {
		return api.Set{}, api.Fault{Code: api.ErrLong}
	}
	if !strings.HasPrefix(text, "[") {
		return api.Set{}, api.Fault{Code: api.ErrOpen}
	}
	begin := 1
	if strings.HasPrefix(text, "[^") {
		begin = 2
	}
	set, end, fault := readItems(text, begin)
	if fault.Code != api.OK {
		return api.Set{}, fault
	}
	if end+1 < len(text) {
		return api.Set{}, api.Fault{At: end + 1, Code: api.ErrRest}
	}
	if begin == 2 {
		set = Not(set)
	}
	return set, api.Fault{}
}

// readItems reads the items from a place on, and tells the place of the `]` behind them.
func readItems(text string, at int) (api.Set, int, api.Fault) {
	var set api.Set
	for at < len(text) && text[at] != ']' {
		item, next, fault := readItem(text, at)
		if fault.Code != api.OK {
			return api.Set{}, 0, fault
		}
		set = Union(set, item)
		at = next
	}
	if at >= len(text) {
		return api.Set{}, 0, api.Fault{At: len(text), Code: api.ErrShort}
	}
	return set, at, api.Fault{}
}

// readItem reads one sign, or two with a `-` between, and tells the place behind them.
func readItem(text string, at int) (api.Set, int, api.Fault) {
	first, next, fault := readSign(text, at)
	if fault.Code != api.OK {
		return api.Set{}, 0, fault
	}
	if next >= len(text) || text[next] != '-' {
		return Of(first), next, api.Fault{}
	}
	last, next, fault := readSign(text, next+1)
	if fault.Code != api.OK {
		return api.Set{}, 0, fault
	}
	set, code := Range(int(first), int(last))
	if code != api.OK {
		return api.Set{}, 0, api.Fault{At: at, Code: code}
	}
	return set, next, api.Fault{}
}

// readSign reads the sign at a place, and tells the place behind it.
func readSign(text string, at int) (byte, int, api.Fault) {
	if at >= len(text) {
		return 0, 0, api.Fault{At: len(text), Code: api.ErrShort}
	}
	if text[at] == '\\' {
		b, n := escape.Read(text[at:], letters, said)
		if n == 0 {
			return 0, 0, api.Fault{At: at, Code: api.ErrEscape}
		}
		return b, at + n, api.Fault{}
	}
	if !isPlain(text[at]) {
		return 0, 0, api.Fault{At: at, Code: api.ErrByte}
	}
	return text[at], at + 1, api.Fault{}
}
