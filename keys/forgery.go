package keys

import (
	"iter"
	"slices"

	"testamur/api"
	"testamur/chains"
)

// The ways in which a signature can be forged.
const (
	sameDigits   = 1
	earlierShown = 2
	sameHash     = 3
)

// lastStep is the greatest digit of a message: the number of steps to the end of a chain.
const lastStep = 3

// signedBy returns the message that a leaf has signed, if there is any. The zero digest stands for none.
func signedBy(signed []api.Digest, at int) (message api.Digest, hasSigned bool) {
	if at < len(signed) {
		message = signed[at]
	}
	return message, message != api.Digest{}
}

// explain says how a signature came about, given what the leaf signed before, the elements that the signature shows, and those that the chains really have there.
func explain(before api.Digest, hasSigned bool, message api.Digest, shown, own []api.Digest) (kind, at int) {
	needed, known := chains.Digits(message), revealed(before, hasSigned)
	if hasSigned && slices.Equal(needed, known) {
		return sameDigits, 0
	}
	for chain := range earlier(needed, known) {
		if shown[chain] == own[chain] {
			return earlierShown, chain
		}
	}
	return sameHash, 0
}

// revealed says of each chain after how many steps the first element comes that anybody but the owner knows. The public key gives away no more than the ends of the chains.
func revealed(before api.Digest, hasSigned bool) (l []int) {
	l = chains.Digits(before)
	if !hasSigned {
		for chain := range l {
			l[chain] = lastStep
		}
	}
	return l
}

// earlier yields the chains of which an element is needed that comes before those that are known.
func earlier(needed, known []int) iter.Seq[int] {
	return func(yield func(chain int) bool) {
		for chain := range needed {
			if needed[chain] < known[chain] && !yield(chain) {
				return
			}
		}
	}
}
