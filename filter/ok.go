package filter

import (
	"bytes"

	"tracery/api"
	"tracery/kin"
	"tracery/trees"
)

// Ok tells why a tree of w is not kept.
func Ok(g api.Gram, f api.Filters, w []byte, t api.Tree) api.Errno {
	if code := Right(g, f); code != api.OK {
		return code
	}
	if len(w) > api.MaxInput {
		return api.ErrLong
	}
	if trees.Right(g, g.Start, t) != api.OK || !bytes.Equal(trees.Yield(t), w) {
		return api.ErrTree
	}
	s := newSieve(g, f, w)
	spans := trees.Spans(t)
	for part := range kin.Parts(&t, kin.OfTree) {
		span := spans[0]
		spans = spans[1:]
		if part.Rule == -1 {
			continue
		}
		if code := s.why(part, span); code != api.OK {
			return code
		}
	}
	return api.OK
}

// why tells why a node that reaches over a span is not as it is kept.
func (s *sieve) why(node *api.Tree, span api.Run) api.Errno {
	nt := s.gram.Rules[node.Rule].Lhs
	switch {
	case s.isFollowed(nt, span.Hi):
		return api.ErrFoll
	case s.isRejected(nt, span.Lo, span.Hi):
		return api.ErrRej
	case s.isBanned(node):
		return api.ErrBan
	}
	return api.OK
}
