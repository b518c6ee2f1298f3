package terms

import (
	"fmt"
	"math/rand"
	"slices"
	"strings"
	"testing"

	"tracery/api"
	"tracery/words"
)

// anyTerm is a term by chance; of a wild one all fields are.
func anyTerm(r *rand.Rand, deep int, wild bool) api.Term {
	kind := 1 + r.Intn(5)
	if deep == 1 && kind == api.TSome {
		kind = api.TNone
	}
	t := api.Term{Kind: kind}
	names := []string{"A", "B", "Add", "A0", "Zz9"}
	switch kind {
	case api.TApp:
		t.Cons = names[r.Intn(len(names))]
	case api.TLex:
		t.Text = make([]byte, r.Intn(4))
		r.Read(t.Text)
	}
	count := 0
	if deep > 1 && (kind == api.TApp || kind == api.TList) {
		count = r.Intn(4)
	} else if kind == api.TSome {
		count = 1
	}
	if wild && r.Intn(6) == 0 {
		t.Kind = []int{0, 6, -1, 1, 2, 3, 4, 5}[r.Intn(8)]
		t.Cons = []string{"", "a", "A", "B c"}[r.Intn(4)]
		t.Text = []byte([]string{"", "x"}[r.Intn(2)])
		count = r.Intn(3)
	}
	for range min(count, 9*(deep-1)) {
		t.Kids = append(t.Kids, anyTerm(r, deep-1, wild))
	}
	return t
}

// slowText is a term's text, and whether it is right; by the chapter's words.
func slowText(t api.Term) (string, bool) {
	var kids []string
	right := true
	for _, kid := range t.Kids {
		text, is := slowText(kid)
		kids = append(kids, text)
		right = right && is
	}
	all := strings.Join(kids, ",")
	lone := t.Cons == "" && len(t.Text) == 0
	switch t.Kind {
	case api.TApp:
		if len(kids) > 0 {
			all = "(" + all + ")"
		}
		return t.Cons + all, right && words.IsName(t.Cons) && len(t.Text) == 0
	case api.TLex:
		return words.Quote(t.Text), right && t.Cons == "" && len(kids) == 0
	case api.TList:
		return "[" + all + "]", right && lone
	case api.TNone:
		return "-", right && lone && len(kids) == 0
	case api.TSome:
		return "?" + all, right && lone && len(kids) == 1
	}
	return "", false
}

// slowFault is the first fault of a text: a list of what is still open instead of calls.
func slowFault(text string) api.Fault {
	if len(text) > api.MaxText {
		return api.Fault{Code: api.ErrLong}
	}
	isIn := func(at int, set string) bool { return at < len(text) && strings.IndexByte(set, text[at]) >= 0 }
	const digits, small, great = "0123456789", "abcdefghijklmnopqrstuvwxyz", "ABCDEFGHIJKLMNOPQRSTUVWXYZ"
	open := ""   // a bracket or a ? for each term that is open
	state := 't' // a term is to come; e: a term, or a ]; n: a name was passed; b: a term was passed
	for at := 0; ; {
		for isIn(at, " \t\n\r") {
			at++
		}
		if state == 'n' {
			state = 'b'
			if isIn(at, "(") {
				open, state = open+"(", 't'
				at++
				continue
			}
		}
		for state == 'b' && strings.HasSuffix(open, "?") {
			open = open[:len(open)-1]
		}
		switch {
		case state == 'b' && open == "" && at == len(text):
			return api.Fault{}
		case state == 'b' && open == "":
			return api.Fault{At: at, Code: api.ErrRest}
		case at == len(text):
			return api.Fault{At: at, Code: api.ErrShort}
		case state == 'b' && isIn(at, ","):
			state = 't'
			at++
			continue
		case state == 'b' && (strings.HasSuffix(open, "(") && isIn(at, ")") || strings.HasSuffix(open, "[") && isIn(at, "]")), state == 'e' && isIn(at, "]"):
			open, state = open[:len(open)-1], 'b'
			at++
			continue
		case state == 'b', !isIn(at, great+"[-?\""):
			return api.Fault{At: at, Code: api.ErrByte}
		}
		end := at + 1
		for isIn(at, great) && isIn(end, digits+small+great) {
			end++
		}
		inner := api.Fault{}
		if isIn(at, "\"") {
			end, inner = slowQuoted(text, at)
		}
		switch {
		case isIn(at, great) && end-at > api.MaxName:
			return api.Fault{At: at, Code: api.ErrName}
		case inner.Code == api.ErrOpen:
			return inner
		case len(open) >= api.MaxNest:
			return api.Fault{At: at, Code: api.ErrLong}
		case inner.Code != api.OK:
			return inner
		case isIn(at, great):
			state = 'n'
		case isIn(at, "["):
			open, state = open+"[", 'e'
		case isIn(at, "?"):
			open, state = open+"?", 't'
		default:
			state = 'b'
		}
		at = end
	}
}

// slowQuoted is the place behind a text in quotes, or its fault.
func slowQuoted(text string, at int) (int, api.Fault) {
	const hex = "0123456789abcdefABCDEF"
	for i := at + 1; i < len(text); i++ {
		c := text[i]
		switch {
		case c == '"':
			return i + 1, api.Fault{}
		case c < 32 || c > 126:
			return 0, api.Fault{At: i, Code: api.ErrByte}
		case c != '\\':
		case i+1 < len(text) && strings.IndexByte(`"\ntr`, text[i+1]) >= 0:
			i++
		case i+3 < len(text) && text[i+1] == 'x' && strings.IndexByte(hex, text[i+2]) >= 0 && strings.IndexByte(hex, text[i+3]) >= 0:
			i += 3
		default:
			return 0, api.Fault{At: i, Code: api.ErrEscape}
		}
	}
	return 0, api.Fault{At: at, Code: api.ErrOpen}
}

// P11.1, P11.3, P11.4, P11.7 and P11.8 of any terms.
func TestByWords(t *testing.T) {
	r := rand.New(rand.NewSource(11))
	count := map[bool]int{}
	last, lastText := none(), "-"
	for i := range 20000 {
		term := anyTerm(r, 1+r.Intn(6), i%2 == 0)
		walk := slowWalk(term)
		if size, _ := Size(term); size != len(walk) || strings.Join(walked(term, 1<<30), " ") != strings.Join(walk, " ") {
			t.Fatalf("%s: %d", all(term), size)
		}
		want, right := slowText(term)
		count[right]++
		text, code := Print(term)
		if Right(term) != right {
			t.Fatalf("%s: %v", all(term), !right)
		}
		if !right {
			if text != "" || code != api.ErrTerm {
				t.Fatalf("%s: %q %d", all(term), text, code)
			}
			continue
		}
		if text != want || code != api.OK {
			t.Fatalf("%s: %q %d", all(term), text, code)
		}
		if back, fault := Parse(text); !Same(back, term) || fault != (api.Fault{}) {
			t.Fatalf("%q: %s %v", text, all(back), fault)
		}
		if same := Same(last, term); same != (lastText == text) {
			t.Fatalf("%q and %q: %v", lastText, text, same)
		}
		last, lastText = term, text
	}
	if count[true] < 5000 || count[false] < 1000 {
		t.Errorf("%v", count)
	}
}

// P11.7: all small terms, each against each.
func TestTextsTellApart(t *testing.T) {
	small := []api.Term{none(), list(), app("A"), lex(""), lex("A")}
	level := slices.Clone(small)
	for _, a := range small {
		level = append(level, some(a), list(a), app("A", a))
		for _, b := range small {
			level = append(level, list(a, b), app("A", a, b))
		}
	}
	for _, a := range level {
		for _, b := range level {
			x, _ := Print(a)
			y, _ := Print(b)
			if Same(a, b) != (x == y) || (all(a) == all(b)) != (x == y) {
				t.Fatalf("%s, %s: %q, %q", all(a), all(b), x, y)
			}
		}
	}
}

// P11.3: each byte behind what a term may begin with, with something behind it and without.
func TestEachByte(t *testing.T) {
	count := map[api.Errno]int{}
	for _, begin := range []string{"", " ", "A", "A ", "A(", "A( ", "A(B", "A(B ", "A(B,", "A(B, ", "A(B)", "A(B) ", "A(-", "A([]", "A(\"a\"", "[", "[ ", "[A", "[A ", "[A,", "[[", "[]", "[] ", "?", "? ", "?A", "?-", "-", "- ", "\"", "\"a", "\"a\\", "\"a\\x", "\"a\\x4", "\"a\"", "\"a\" ", "A(?", "[?B", "A(B(C", "A(B(C)", "A" + strings.Repeat("b", api.MaxName-2), "A" + strings.Repeat("b", api.MaxName-1), strings.Repeat("?", api.MaxNest-1), strings.Repeat("[", api.MaxNest), strings.Repeat("A(", api.MaxNest) + " "} {
		for b := range 256 {
			for _, end := range []string{"", "B", ")", "]", "\"", "4\"", " ", " ,", "a)"} {
				text := begin + string([]byte{byte(b)}) + end
				_, fault := Parse(text)
				if want := slowFault(text); fault != want {
					t.Fatalf("%q: %v, not %v", text, fault, want)
				}
				count[fault.Code]++
			}
		}
	}
	for _, code := range []api.Errno{api.OK, api.ErrShort, api.ErrByte, api.ErrName, api.ErrEscape, api.ErrOpen, api.ErrLong, api.ErrRest} {
		if count[code] < 20 {
			t.Errorf("error %d: %d times", code, count[code])
		}
	}
}

// P11.3 and P11.5: texts with blanks, changed here and there.
func TestChangedTexts(t *testing.T) {
	r := rand.New(rand.NewSource(115))
	count := map[api.Errno]int{}
	const bytes = "ABz09()[],,--??\"\"\\x\\q \t\n\r#.\x00\xe4"
	for range 60000 {
		term := anyTerm(r, 1+r.Intn(5), false)
		text, _ := Print(term)
		for range r.Intn(3) {
			at := r.Intn(len(text) + 1)
			put := bytes[r.Intn(len(bytes))]
			cut := min(len(text), at+r.Intn(2))
			text = text[:at] + string([]byte{put}) + text[cut:]
		}
		read, fault := Parse(text)
		if want := slowFault(text); fault != want {
			t.Fatalf("%q: %v, not %v", text, fault, want)
		}
		count[fault.Code]++
		if fault != (api.Fault{}) {
			if !Same(read, api.Term{}) {
				t.Fatalf("%q: %s", text, all(read))
			}
			continue
		}
		again, code := Print(read)
		if back, fault := Parse(again); code != api.OK || !Right(read) || fault != (api.Fault{}) || !Same(back, read) {
			t.Fatalf("%q: %q %d", text, again, code)
		}
	}
	for _, code := range []api.Errno{api.OK, api.ErrShort, api.ErrByte, api.ErrEscape, api.ErrOpen, api.ErrRest} {
		if count[code] < 50 {
			t.Errorf("%v", count)
		}
	}
}

// paths is all paths of a term, each ahead of those that it begins.
func paths(t api.Term, to []int) [][]int {
	list := [][]int{to}
	for i, kid := range t.Kids {
		list = append(list, paths(kid, append(slices.Clone(to), i))...)
	}
	return list
}

// P11.2 and P11.6: what is put is there, all that lies beside is as it was, and what was there put back changes nothing.
func TestPutAndAt(t *testing.T) {
	r := rand.New(rand.NewSource(116))
	for range 3000 {
		term, put := anyTerm(r, 1+r.Intn(5), true), anyTerm(r, 1+r.Intn(3), true)
		before, putBefore := all(term), all(put)
		list := paths(term, nil)
		texts := slowWalk(term)
		path := list[r.Intn(len(list))]
		with, code := Put(term, path, put)
		there, e := At(with, path)
		if code != api.OK || e != api.OK || !Same(there, put) || all(term) != before || all(put) != putBefore {
			t.Fatalf("%s, %v: %s %d, there %s %d", before, path, all(with), code, all(there), e)
		}
		for i, other := range list {
			was, e1 := At(term, other)
			if e1 != api.OK || all(was) != texts[i] {
				t.Fatalf("%s at %v: %s %d", before, other, all(was), e1)
			}
			n := min(len(other), len(path))
			if slices.Equal(other[:n], path[:n]) {
				continue
			}
			if beside, e2 := At(with, other); e2 != api.OK || !Same(was, beside) {
				t.Fatalf("%s, %v: beside it, at %v, is %s %d", before, path, other, all(beside), e2)
			}
		}
		was, _ := At(term, path)
		if back, code := Put(with, path, was); code != api.OK || !Same(back, term) {
			t.Fatalf("%s: put back %s %d", before, all(back), code)
		}
		if again, code := Put(term, path, was); code != api.OK || !Same(again, term) {
			t.Fatalf("%s: put where it was %s %d", before, all(again), code)
		}
		wrong := append(slices.Clone(path), []int{len(there.Kids), -1, 1 << 40}[r.Intn(3)])
		if none, code := At(with, wrong); code != api.ErrNone || !Same(none, api.Term{}) {
			t.Fatal(fmt.Sprint(before, wrong, code))
		}
	}
}
