package words

import (
	"strings"

	"tracery/api"
	"tracery/escape"
)

// The short signs of texts in quotes.
const (
	letters = `ntr"\`
	said    = "\n\t\r\"\\"
)

// Quote is the text that says b.
func Quote(b []byte) string {
	var text strings.Builder
	text.WriteByte('"')
	for _, c := range b {
		if isPlain(c) {
			text.WriteByte(c)
		} else {
			text.WriteString(escape.Write(c, letters, said))
		}
	}
	text.WriteByte('"')
	return text.String()
}

// isPlain tells whether a byte is its own sign.
func isPlain(c byte) bool { return 32 <= c && c <= 126 && c != '"' && c != '\\' }

// Unquote reads a text in quotes.
func Unquote(text string) ([]byte, api.Fault) {
	if len(text) > api.MaxText {
		return nil, api.Fault{Code: api.ErrLong}
	}
	if !strings.HasPrefix(text, `"`) {
		return nil, api.Fault{Code: api.ErrOpen}
	}
	b, end, fault := readQuoted(text)
	if fault.Code != api.OK {
		return nil, fault
	}
	if end < len(text) {
		return nil, api.Fault{At: end, Code: api.ErrRest}
	}
	return b, api.Fault{}
}

// readQuoted reads the text in quotes that begins at place 0, and tells the place behind it.
func readQuoted(text string) ([]byte, int, api.Fault) {
	var b []byte
	for at := 1; at < len(text); {
		switch c := text[at]; {
		case c == '"':
			return b, at + 1, api.Fault{}
		case c == '\\':
			e, n := escape.Read(text[at:], letters, said)
			if n == 0 {
				return nil, 0, api.Fault{At: at, Code: api.ErrEscape}
			}
			b = append(b, e)
			at += n
		case isPlain(c):
			b = append(b, c)
			at++
		default:
			return nil, 0, api.Fault{At: at, Code: api.ErrByte}
		}
	}
	return nil, 0, api.Fault{Code: api.ErrOpen}
}
