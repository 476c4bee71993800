package keys

import (
	"slices"
	"testing"

	"testamur/api"
	"testamur/chains"
)

// TestExplain gives elements that the chains do not have. With a root, this would need two strings with one hash, so that no call of Forged shows it.
func TestExplain(t *testing.T) { // P6.3
	message, before := api.Digest{0: 1, 3: 128}, api.Digest{0: 64, 3: 192, 31: 1}
	own := chains.Sign(api.Digest{1}, message)
	for i, x := range []struct {
		before    api.Digest
		right     []int // the chains whose elements are shown as they really are
		kind, at  int
		hasSigned bool
	}{
		{api.Digest{0: 1, 3: 128, 31: 1}, nil, 1, 0, true},
		{before, nil, 3, 0, true},
		{before, []int{0}, 2, 0, true},
		{before, []int{12}, 2, 12, true},
		{before, []int{0, 12}, 2, 0, true},
		{before, []int{1, 2, 3, 4, 11, 13, 16, 17}, 3, 0, true},
		{before, []int{1, 12, 18}, 2, 12, true},
		{api.Digest{}, nil, 3, 0, false},
		{api.Digest{}, []int{18}, 2, 18, false},
		{api.Digest{}, []int{3, 5}, 2, 3, false},
	} {
		shown := make([]api.Digest, len(own))
		for _, chain := range x.right {
			shown[chain] = own[chain]
		}
		if kind, at := explain(x.before, x.hasSigned, message, shown, slices.Clone(own)); kind != x.kind || at != x.at {
			t.Error(i, kind, at)
		}
	}
}
