package chains

import "testamur/api"

const (
	digitBits     = 2
	byteDigits    = 4
	messageDigits = 16
	sumDigits     = 3
	chainCount    = messageDigits + sumDigits
	lastStep      = 1<<digitBits - 1 // the greatest digit, and the number of steps of a whole chain
)

// digits says of each chain how many steps lead to the element that a signature shows.
type digits [chainCount]int

func digitsOf(message api.Digest) (d digits) {
	sum := 0
	for i := range messageDigits {
		d[i] = digit(int(message[i/byteDigits]), byteDigits-1-i%byteDigits)
		sum += lastStep - d[i]
	}
	for i := range sumDigits {
		d[messageDigits+i] = digit(sum, sumDigits-1-i)
	}
	return d
}

// digit returns the digit of a number that has so many less significant ones.
func digit(n, behind int) int { return n >> (digitBits * behind) & lastStep }

// left returns how many steps of each chain come after those of the digits.
func (d digits) left() (rest digits) {
	for i := range d {
		rest[i] = lastStep - d[i]
	}
	return rest
}
