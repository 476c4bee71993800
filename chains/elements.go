package chains

import (
	"iter"
	"slices"

	"testamur/api"
	"testamur/digest"
)

// firsts returns the elements with which the chains of a seed begin.
func firsts(seed api.Digest) (l []api.Digest) {
	for i := range chainCount {
		l = append(l, tagged("chain", seed[:], []byte{byte(i)}))
	}
	return l
}

// reached yields, for one element of each chain, the element to which so many steps lead from it.
func reached(from []api.Digest, steps digits) iter.Seq[api.Digest] {
	return func(yield func(x api.Digest) bool) {
		for i, x := range from {
			for range steps[i] {
				x = tagged("step", x[:])
			}
			if !yield(x) {
				return
			}
		}
	}
}

// publicOf returns the public key to whose elements the remaining steps lead from those that are shown for some digits.
func publicOf(shown []api.Digest, d digits) api.Digest {
	var ends [][]byte
	for x := range reached(shown, d.left()) {
		ends = append(ends, x[:])
	}
	return tagged("public", ends...)
}

// tagged returns the hash of bytes, one part after the other, under a tag.
func tagged(tag string, parts ...[]byte) api.Digest {
	return digest.Tagged(tag, slices.Concat(parts...))
}
