package keys

import (
	"iter"
	"slices"

	"testamur/api"
	"testamur/chains"
	"testamur/digest"
)

const (
	numberBytes = 4
	byteBits    = 8
)

// written returns the lowest bits of a number, the most significant byte first.
func written(n int) (b [numberBytes]byte) {
	for i := range b {
		b[i] = byte(n >> (byteBits * (numberBytes - 1 - i)))
	}
	return b
}

func isTree(many int) bool { return 1 <= many && many <= api.MaxLeaves }

func isLeaf(at, many int) bool { return 0 <= at && at < many }

// leaves yields the public keys of the leaves of a tree.
func leaves(seed api.Digest, many int) iter.Seq[api.Digest] {
	return func(yield func(public api.Digest) bool) {
		for at := range many {
			if !yield(chains.Public(Seed(seed, at))) {
				return
			}
		}
	}
}

func publicKeys(seed api.Digest, many int) []api.Digest { return slices.Collect(leaves(seed, many)) }

// conditions returns what a signature must fulfil. Each of them relies on those before it.
func conditions(root api.Digest, many int, message api.Digest, s api.Leaf) []func() bool {
	var public api.Digest
	return []func() bool{
		func() bool { return isTree(many) },
		func() bool { return isLeaf(s.Index, many) },
		func() bool {
			recovered, e := chains.Recover(message, s.Chains)
			public = recovered
			return e == api.OK
		},
		func() bool {
			climbed, e := digest.Climb(public, s.Index, many, s.Path)
			return e == api.OK && climbed == root
		},
	}
}
