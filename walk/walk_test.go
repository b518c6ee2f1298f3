package walk

import (
	"fmt"
	"testing"

	"tracery/api"
)

func TestTree(t *testing.T) {
	tree := api.Tree{Rule: 1, Kids: []api.Tree{{Rule: 2}, {Rule: 3, Kids: []api.Tree{{Rule: -1, Kids: []api.Tree{{Rule: 4}}}, {Rule: 5}}}, {Rule: 6, Kids: []api.Tree{}}}}
	const want = " 1@1 2@2 3@2 -1@3 4@4 5@3 6@2"
	for n := 0; ; n++ { // one may stop wherever one likes
		text, left := "", n
		for part, deep := range Tree(tree) {
			text += fmt.Sprintf(" %d@%d", part.Rule, deep)
			if left--; left <= 0 {
				break
			}
		}
		if text != want[:len(text)] {
			t.Fatalf("%s, not %s", text, want)
		}
		if len(text) == len(want) {
			break
		}
	}
}
