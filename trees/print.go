package trees

import (
	"strconv"

	"tracery/api"
)

// maxRule is the greatest Rule of a plain tree.
const maxRule = 999999

const hexDigits = "0123456789abcdef"

// Print tells a tree's text.
func Print(t api.Tree) (string, api.Errno) {
	if !hasText(t) {
		return "", api.ErrTree
	}
	if textSize(t) > api.MaxText {
		return "", api.ErrLong
	}
	return string(appendTree(nil, t)), api.OK
}

// hasText tells whether a tree is plain and not too deep.
func hasText(t api.Tree) bool {
	for p := range parts(t) {
		if p.deep > api.MaxNest || !isPlain(*p.Tree) {
			return false
		}
	}
	return true
}

// isPlain tells it of a leaf or node by itself.
func isPlain(t api.Tree) bool {
	if isLeaf(t) {
		return len(t.Kids) == 0
	}
	return t.Byte == 0 && 0 <= t.Rule && t.Rule <= maxRule
}

// textSize is how many bytes the text of a plain tree has.
func textSize(t api.Tree) int {
	size := 0
	for p := range parts(t) {
		if isLeaf(*p.Tree) {
			size += len("x00")
			continue
		}
		blanks := max(len(p.Kids)-1, 0)
		size += len(strconv.Itoa(p.Rule)) + len("()") + blanks
	}
	return size
}

// appendTree puts the text of a plain tree behind another one; it calls itself no deeper than MaxNest.
func appendTree(text []byte, t api.Tree) []byte {
	if isLeaf(t) {
		return append(text, 'x', hexDigits[t.Byte>>4], hexDigits[t.Byte&15])
	}
	text = strconv.AppendInt(text, int64(t.Rule), 10)
	text = append(text, '(')
	for i, kid := range t.Kids {
		if i > 0 {
			text = append(text, ' ')
		}
		text = appendTree(text, kid)
	}
	return append(text, ')')
}
