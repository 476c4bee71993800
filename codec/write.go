package codec

import "testamur/api"

// output is where an encoding goes. Encode collects what it gets and Size only counts it, so that both agree on every value.
type output struct {
	digit func(d byte)
	text  func(s string)
}

// writers returns the functions that write what follows the kind of a value, by kind.
func writers() [api.ListV + 1]func(v api.Value, o output) {
	return [...]func(v api.Value, o output){
		api.IntV:  writeInt,
		api.TextV: writeText,
		api.ListV: writeList,
	}
}

// write writes the encoding of a value that Check accepts.
func write(v api.Value, o output) {
	o.digit(byte(v.Kind))
	writers()[v.Kind](v, o)
}

func writeInt(v api.Value, o output) { writeNumeral(unsigned(v.N), o) }

func writeText(v api.Value, o output) {
	writeNumeral(uint64(len(v.S)), o)
	o.text(v.S)
}

func writeList(v api.Value, o output) {
	writeNumeral(uint64(len(v.L)), o)
	for _, element := range v.L {
		write(element, o)
	}
}

func writeNumeral(u uint64, o output) {
	for ; u >= 128; u >>= 7 {
		o.digit(byte(u) | 128)
	}
	o.digit(byte(u))
}

// unsigned returns the unsigned form of n. The bits of -2n - 1 are those of 2n inverted, which avoids the overflow of -2n.
func unsigned(n int) uint64 {
	if n < 0 {
		return ^(uint64(n) << 1)
	}
	return uint64(n) << 1
}
