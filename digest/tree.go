package digest

import (
	"math/bits"

	"testamur/api"
)

// maxElements is the greatest number of elements of a list to whose digest Climb leads.
const maxElements = 1 << 40

func leaf(d api.Digest) api.Digest { return Tagged("leaf", d[:]) }

func node(a, b api.Digest) api.Digest { return taggedPair("node", a, b) }

// split returns how many elements of a list of n > 1 are in its first part: the greatest power of 2 less than n.
func split(n int) int { return 1 << (bits.Len(uint(n-1)) - 1) }

// pathOf returns the path of an element that exists.
func pathOf(l []api.Digest, at int) (path []api.Digest) {
	if len(l) == 1 {
		return nil
	}
	k := split(len(l))
	if at < k {
		return append(pathOf(l[:k], at), Tree(l[k:]))
	}
	return append(pathOf(l[k:], at-k), Tree(l[:k]))
}

// steps returns the number of elements of a path.
func steps(at, n int) int {
	if n == 1 {
		return 0
	}
	k := split(n)
	if at < k {
		return 1 + steps(at, k)
	}
	return 1 + steps(at-k, n-k)
}

// climb returns the digest to which a path leads that has the right number of elements.
func climb(d api.Digest, at, n int, path []api.Digest) api.Digest {
	if n == 1 {
		return leaf(d)
	}
	k, last := split(n), len(path)-1
	if at < k {
		return node(climb(d, at, k, path[:last]), path[last])
	}
	return node(path[last], climb(d, at-k, n-k, path[:last]))
}
