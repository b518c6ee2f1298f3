package escape

import (
	"fmt"
	"testing"
)

const (
	letters = `n"`
	said    = "\n\""
)

func TestWriteIsRead(t *testing.T) {
	for b := range 256 {
		want := fmt.Sprintf(`\x%02x`, b)
		switch b {
		case '\n':
			want = `\n`
		case '"':
			want = `\"`
		}
		got := Write(byte(b), letters, said)
		if got != want {
			t.Errorf("Write(%d) = %q", b, got)
		}
		if c, n := Read(got+"rest", letters, said); int(c) != b || n != len(got) {
			t.Errorf("Read(%q) = %d, %d", got, c, n)
		}
	}
}

func TestRead(t *testing.T) {
	for _, c := range []struct {
		text string
		b    byte
		n    int
	}{
		{`\x4A`, 'J', 4}, {`\x4a`, 'J', 4}, {`\xFf0`, 255, 4}, {`\n`, 10, 2},
		{``, 0, 0}, {`n`, 0, 0}, {`nn`, 0, 0}, {`\`, 0, 0}, {`\q`, 0, 0}, {`\x`, 0, 0}, {`\x4`, 0, 0},
		{`\x4g`, 0, 0}, {`\xg4`, 0, 0}, {`\x/0`, 0, 0}, {`\x:0`, 0, 0}, {`\x@0`, 0, 0}, {"\\x`0", 0, 0}, {`\X41`, 0, 0}, {`\t`, 0, 0},
	} {
		if b, n := Read(c.text, letters, said); b != c.b || n != c.n {
			t.Errorf("Read(%q) = %d, %d", c.text, b, n)
		}
	}
}

func TestTablesOfUnlikeLengths(t *testing.T) {
	if got := Write('b', "x", "ab"); got != `\x62` {
		t.Errorf("Write = %q", got)
	}
	if _, n := Read(`\b`, "ab", "x"); n != 0 {
		t.Errorf("Read = %d", n)
	}
}
