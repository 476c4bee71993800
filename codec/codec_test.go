package codec_test

import (
	"bytes"
	"encoding/binary"
	"math"
	"math/rand"
	"slices"
	"strings"
	"testing"

	"testamur/api"
	"testamur/codec"
)

func integer(n int) api.Value { return api.Value{Kind: api.IntV, N: n} }

func text(s string) api.Value { return api.Value{Kind: api.TextV, S: s} }

func list(l ...api.Value) api.Value { return api.Value{Kind: api.ListV, L: l} }

// wrap puts lists around a value, one within the other.
func wrap(v api.Value, lists int) api.Value {
	for range lists {
		v = list(v)
	}
	return v
}

// wrapped is the encoding of wrap.
func wrapped(inner []byte, lists int) []byte {
	return append(bytes.Repeat([]byte{3, 1}, lists), inner...)
}

// nines is nine digits 255, between the bytes before and after.
func nines(before []byte, after ...byte) []byte {
	return slices.Concat(before, bytes.Repeat([]byte{255}, 9), after)
}

type encoded struct {
	v api.Value
	b []byte
}

// examples are values with the encodings that the chapter states or that follow from its table.
func examples() []encoded {
	return []encoded{
		{integer(0), []byte{1, 0}},
		{integer(-1), []byte{1, 1}},
		{integer(1), []byte{1, 2}},
		{integer(-3), []byte{1, 5}},
		{integer(63), []byte{1, 126}},
		{integer(-64), []byte{1, 127}},
		{integer(64), []byte{1, 128, 1}},
		{integer(-65), []byte{1, 129, 1}},
		{integer(100), []byte{1, 200, 1}},
		{integer(8191), []byte{1, 254, 127}},
		{integer(8192), []byte{1, 128, 128, 1}},
		{integer(math.MaxInt), append([]byte{1, 254}, nines(nil, 1)[1:]...)},
		{integer(math.MinInt), nines([]byte{1}, 1)},
		{text(""), []byte{2, 0}},
		{text("ab"), []byte{2, 2, 97, 98}},
		{text("\x00\xff"), []byte{2, 2, 0, 255}},
		{text(strings.Repeat("x", 127)), append([]byte{2, 127}, strings.Repeat("x", 127)...)},
		{text(strings.Repeat("x", 128)), append([]byte{2, 128, 1}, strings.Repeat("x", 128)...)},
		{list(), []byte{3, 0}},
		{list(list()), []byte{3, 1, 3, 0}},
		{list(integer(100), text("ab")), []byte{3, 2, 1, 200, 1, 2, 2, 97, 98}},
		{list(list(), text(""), integer(0)), []byte{3, 3, 3, 0, 2, 0, 1, 0}},
		{list(zeros(128)...), append([]byte{3, 128, 1}, bytes.Repeat([]byte{1, 0}, 128)...)},
		{wrap(list(), 15), wrapped([]byte{3, 0}, 15)},
		{wrap(integer(5), 16), wrapped([]byte{1, 10}, 16)},
		{wrap(text("a"), 16), wrapped([]byte{2, 1, 97}, 16)},
	}
}

func zeros(many int) []api.Value { return slices.Repeat([]api.Value{integer(0)}, many) }

// wrongValues are values with the errors of Check.
func wrongValues() map[api.Errno][]api.Value {
	zero := api.Value{}
	deep := wrap(integer(0), 17)
	return map[api.Errno][]api.Value{
		api.ErrArg: {
			zero,
			{Kind: 4},
			{Kind: -1},
			{Kind: math.MaxInt},
			{Kind: math.MinInt},
			{Kind: 1 << 8},
			{Kind: 1<<8 + api.IntV},
			{N: 1},
			{Kind: api.IntV, S: "a"},
			{Kind: api.IntV, S: "\x00"},
			{Kind: api.IntV, L: []api.Value{integer(1)}},
			{Kind: api.TextV, N: 1},
			{Kind: api.TextV, S: "a", N: -1},
			{Kind: api.TextV, L: []api.Value{text("")}},
			{Kind: api.ListV, N: 1},
			{Kind: api.ListV, S: "a"},
			{Kind: api.ListV, L: []api.Value{integer(1)}, N: 1},
			list(zero),
			list(integer(1), zero),
			list(zero, integer(1)),
			list(list(integer(1)), list(text(""), api.Value{Kind: api.IntV, S: "a"})),
			// What is not well-formed counts before what is too deep.
			wrap(zero, 17),
			wrap(zero, 1<<16-1),
			list(deep, zero),
			list(zero, deep),
			// The elements of a value that must not have any do not matter.
			{Kind: api.IntV, L: []api.Value{deep}},
		},
		api.ErrLimit: {
			wrap(list(), 16),
			deep,
			wrap(text("a"), 17),
			wrap(list(), 1<<16-1),
			// The deepest element counts, wherever it is.
			list(integer(1), wrap(list(), 15)),
			list(wrap(list(), 15), integer(1), list()),
			list(list(), wrap(list(), 15), list(list())),
		},
	}
}

// wrongBytes are no encodings.
func wrongBytes() [][]byte {
	return [][]byte{
		// No value, or an unknown kind.
		nil, {}, {0}, {0, 0}, {4}, {4, 0}, {255, 0}, {129, 0},
		// Numerals that do not end, or have superfluous digits, or too many bits.
		{1}, {1, 128}, {1, 255, 255}, {1, 128, 0}, {1, 129, 128, 0}, {2, 128, 0}, {3, 128, 0},
		nines([]byte{1}), nines([]byte{1}, 2), nines([]byte{1}, 127), nines([]byte{1}, 0), nines([]byte{1}, 128), nines([]byte{1}, 129, 0), nines([]byte{1}, 128, 1), nines([]byte{1}, 129, 1),
		append([]byte{1}, bytes.Repeat([]byte{128}, 100)...),
		// Texts without all of their bytes.
		{2}, {2, 1}, {2, 3, 97}, {2, 2, 97}, {2, 128, 1, 97}, nines([]byte{2}, 1), nines([]byte{2}, 1, 97), nines([]byte{2}, 0),
		// Lists without all of their elements.
		{3}, {3, 1}, {3, 1, 1}, {3, 2, 1, 0}, {3, 1, 0}, {3, 1, 4, 0}, {3, 1, 5}, {3, 1, 1, 128, 0}, nines([]byte{3}, 1), nines([]byte{3}, 1, 1, 0), nines([]byte{3}, 0),
		// What a slice has capacity for is not part of it.
		[]byte{1, 0}[:0], []byte{1, 0}[:1], []byte{2, 1, 97}[:2], []byte{3, 1, 1, 0}[:2],
		// Bytes behind the value.
		{1, 5, 0}, {1, 0, 1, 0}, {2, 0, 0}, {2, 1, 97, 97}, {3, 0, 3, 0}, {3, 1, 1, 0, 1, 0},
		// Encodings of values that are too deep.
		wrapped([]byte{3, 0}, 16), wrapped([]byte{1, 0}, 17), wrapped([]byte{2, 0}, 17), wrapped([]byte{1, 0}, 1<<20), bytes.Repeat([]byte{3}, 1<<20), bytes.Repeat([]byte{3, 127}, 1<<20),
	}
}

// reference encodes independently of the package: a numeral is a varint of encoding/binary.
func reference(v api.Value) []byte {
	b := []byte{byte(v.Kind)}
	switch v.Kind {
	case api.IntV:
		return binary.AppendVarint(b, int64(v.N))
	case api.TextV:
		return append(binary.AppendUvarint(b, uint64(len(v.S))), v.S...)
	}
	b = binary.AppendUvarint(b, uint64(len(v.L)))
	for _, element := range v.L {
		b = append(b, reference(element)...)
	}
	return b
}

// someValues are well-formed values within the limits: the examples, integers around the powers of two, and others that are made at random, always the same ones.
func someValues() (values []api.Value) {
	for _, x := range examples() {
		values = append(values, x.v)
	}
	for bit := range 64 {
		for offset := -2; offset <= 2; offset++ {
			values = append(values, integer(1<<bit+offset), integer(-(1<<bit + offset)))
		}
	}
	random := rand.New(rand.NewSource(1))
	for range 3000 {
		values = append(values, randomValue(random, 1+random.Intn(api.MaxDepth)))
	}
	return values
}

func randomValue(random *rand.Rand, lists int) api.Value {
	switch kind := random.Intn(4); {
	case kind == 0 || lists == 0:
		return integer(int(random.Uint64() >> random.Intn(64)))
	case kind == 1:
		s := make([]byte, random.Intn(10))
		random.Read(s)
		return text(string(s))
	}
	l := make([]api.Value, random.Intn(4))
	for i := range l {
		l[i] = randomValue(random, lists-1)
	}
	return list(l...)
}

func TestEncodeExamples(t *testing.T) { // P1.1
	for i, x := range examples() {
		if e := codec.Check(x.v); e != api.OK {
			t.Error(i, "Check", e)
		}
		if b, e := codec.Encode(x.v); e != api.OK || !bytes.Equal(b, x.b) {
			t.Error(i, "Encode", b, e)
		}
		if n, e := codec.Size(x.v); e != api.OK || n != len(x.b) {
			t.Error(i, "Size", n, e)
		}
	}
}

func TestEncodeReference(t *testing.T) { // P1.1
	for _, v := range someValues() {
		want := reference(v)
		b, e := codec.Encode(v)
		n, f := codec.Size(v)
		if codec.Check(v) != api.OK || e != api.OK || f != api.OK || !bytes.Equal(b, want) || n != len(want) {
			t.Fatal(v, b, e, n, f)
		}
	}
}

func TestEncodeErrors(t *testing.T) { // P1.1
	for want, values := range wrongValues() {
		for i, v := range values {
			if e := codec.Check(v); e != want {
				t.Error(want, i, "Check", e)
			}
			if b, e := codec.Encode(v); e != want || len(b) > 0 {
				t.Error(want, i, "Encode", b, e)
			}
			if n, e := codec.Size(v); e != want || n != 0 {
				t.Error(want, i, "Size", n, e)
			}
		}
	}
}

func TestEmptySlices(t *testing.T) { // P1.1, R3
	for _, v := range []api.Value{integer(7), text("a"), list()} {
		with := v
		with.L = []api.Value{}
		a, e := codec.Encode(v)
		b, f := codec.Encode(with)
		if e != api.OK || f != api.OK || !bytes.Equal(a, b) {
			t.Error(v, a, e, b, f)
		}
	}
	if _, e := codec.Decode([]byte{}); e != api.ErrCode {
		t.Error(e)
	}
}

func TestDecodeExamples(t *testing.T) { // P1.2
	for i, x := range examples() {
		if v, e := codec.Decode(x.b); e != api.OK || !codec.Same(v, x.v) {
			t.Error(i, v, e)
		}
	}
}

func TestDecodeErrors(t *testing.T) { // P1.2
	for i, b := range wrongBytes() {
		if v, e := codec.Decode(b); e != api.ErrCode || !codec.Same(v, api.Value{}) {
			t.Error(i, b[:min(len(b), 20)], v, e)
		}
	}
}

// TestDecodeAll decodes all sequences of a few bytes that occur in encodings: what is no encoding leads to an error, and every other one is that of its value.
func TestDecodeAll(t *testing.T) { // P1.2
	const longest = 6
	alphabet := []byte{0, 1, 2, 3, 4, 97, 128, 255}
	found, total := 0, 0
	var decode func(b []byte)
	decode = func(b []byte) {
		total++
		v, e := codec.Decode(b)
		switch e {
		case api.OK:
			found++
			if codec.Check(v) != api.OK || !bytes.Equal(reference(v), b) {
				t.Fatal(b, v)
			}
		case api.ErrCode:
			if !codec.Same(v, api.Value{}) {
				t.Fatal(b, v)
			}
		default:
			t.Fatal(b, e)
		}
		if len(b) < longest {
			for _, next := range alphabet {
				decode(append(b, next))
			}
		}
	}
	decode(nil)
	if want := countEncodings(alphabet, longest); found != want {
		t.Error(found, "of", total, "are encodings instead of", want)
	}
}

// countEncodings calculates how many encodings of at most that many bytes consist of an alphabet, without making any.
func countEncodings(alphabet []byte, longest int) (many int) {
	low, high := []byte{}, 0
	for _, d := range alphabet {
		if d < 128 {
			low = append(low, d)
		} else {
			high++
		}
	}
	hasZero := slices.Contains(low, 0)
	// numerals of n digits: digits with 128, then one without that is not 0, unless it is the only one.
	integers := func(n int) int {
		count := len(low)
		if n > 1 && hasZero {
			count--
		}
		for range n - 1 {
			count *= high
		}
		return count
	}
	power := func(n int) int { // texts of n bytes
		count := 1
		for range n {
			count *= len(alphabet)
		}
		return count
	}
	// values[n] is the number of values whose encoding has n bytes; rows of k values are counted with those of k - 1.
	values := make([]int, longest+1)
	var rows func(k, n int) int
	rows = func(k, n int) int {
		if k == 0 {
			if n == 0 {
				return 1
			}
			return 0
		}
		count := 0
		for first := 2; first <= n; first++ {
			count += values[first] * rows(k-1, n-first)
		}
		return count
	}
	for n := 2; n <= longest; n++ {
		values[n] = integers(n - 1)
		for _, d := range low { // lengths and numbers of elements with more digits exceed what fits
			if int(d) == n-2 {
				values[n] += power(n - 2)
			}
			values[n] += rows(int(d), n-2)
		}
		many += values[n]
	}
	return many
}

func TestDecodeTruncated(t *testing.T) { // P1.2, P1.4
	for _, x := range examples() {
		for n := range len(x.b) {
			if v, e := codec.Decode(x.b[:n]); e != api.ErrCode {
				t.Error(x.b[:n], v, e)
			}
		}
		for _, more := range []byte{0, 1, 128, 255} {
			if v, e := codec.Decode(append(slices.Clone(x.b), more)); e != api.ErrCode {
				t.Error(x.b, more, v, e)
			}
		}
	}
}

func TestSame(t *testing.T) { // P1.3
	different := []api.Value{
		{}, {N: 1}, {S: "a"}, {L: []api.Value{{}}}, {L: []api.Value{{}, {}}}, {Kind: 4}, {Kind: -1}, {Kind: -1, N: 1, S: "a", L: []api.Value{{}}},
		integer(0), integer(1), integer(-1), integer(math.MinInt), integer(math.MaxInt), {Kind: api.IntV, S: "a"}, {Kind: api.IntV, L: []api.Value{{}}},
		text(""), text("a"), text("b"), text("ab"), text("a\x00"), {Kind: api.TextV, N: 1},
		list(), list(integer(0)), list(integer(1)), list(integer(1), integer(1)), list(integer(1), text("")), list(text(""), integer(1)),
		list(list()), list(list(integer(1))), list(list(integer(1)), integer(1)), list(list(integer(1), integer(1))), {Kind: api.ListV, N: 1}, {Kind: api.ListV, S: "a"},
		list(api.Value{}), list(api.Value{N: 1}), wrap(list(), 20), wrap(list(), 21), wrap(integer(1), 20),
	}
	for i, a := range different {
		for k, b := range different {
			if codec.Same(a, b) != (i == k) {
				t.Error(a, b)
			}
		}
	}
	for i, v := range different {
		if !codec.Same(v, clone(v)) {
			t.Error(i, v)
		}
	}
	if !codec.Same(wrap(api.Value{}, 1<<16-1), wrap(api.Value{}, 1<<16-1)) || codec.Same(wrap(api.Value{}, 1<<16-1), wrap(api.Value{N: 1}, 1<<16-1)) {
		t.Error("deep")
	}
}

// clone copies a value; slices that are nil become empty.
func clone(v api.Value) api.Value {
	l := make([]api.Value, len(v.L))
	for i, element := range v.L {
		l[i] = clone(element)
	}
	v.S = strings.Clone(v.S)
	v.L = l
	return v
}

func TestThereAndBack(t *testing.T) { // P1.4
	for _, v := range someValues() {
		b, e := codec.Encode(v)
		back, f := codec.Decode(b)
		if e != api.OK || f != api.OK || !codec.Same(v, back) {
			t.Fatal(v, b, e, back, f)
		}
		again, g := codec.Encode(back)
		if g != api.OK || !bytes.Equal(b, again) {
			t.Fatal(v, b, again, g)
		}
	}
}

func TestNoEncodingBeginsAnother(t *testing.T) { // P1.4
	var pairs []encoded
	for _, v := range someValues() {
		b, e := codec.Encode(v)
		if e != api.OK {
			t.Fatal(v, e)
		}
		pairs = append(pairs, encoded{v, b})
	}
	// In this order, what begins another one is directly before one that it begins.
	slices.SortFunc(pairs, func(x, y encoded) int { return bytes.Compare(x.b, y.b) })
	for i, x := range pairs[1:] {
		before := pairs[i]
		if same := codec.Same(before.v, x.v); same != bytes.Equal(before.b, x.b) || !same && bytes.HasPrefix(x.b, before.b) {
			t.Fatal(before, x)
		}
	}
}

func TestSizeOfLists(t *testing.T) { // P1.4
	values := someValues()
	for _, many := range []int{0, 1, 2, 127, 128, 129, 1000, len(values)} {
		var elements []api.Value
		sum := 0
		for _, v := range values {
			if len(elements) == many {
				break
			}
			if codec.Check(list(v)) == api.OK {
				n, _ := codec.Size(v)
				sum += n
				elements = append(elements, v)
			}
		}
		zero, _ := codec.Size(integer(0))
		n, e := codec.Size(list(elements...))
		m, f := codec.Size(list(zeros(len(elements))...))
		if e != api.OK || f != api.OK || n != m-len(elements)*zero+sum {
			t.Error(many, n, m, sum, e, f)
		}
	}
}

func TestPure(t *testing.T) { // R2
	b := append([]byte{3, 2, 1, 200, 1, 2, 2, 97, 98}, 7, 7, 7)
	kept := slices.Clone(b)
	v, e := codec.Decode(b[:9])
	if e != api.OK || !bytes.Equal(b, kept) {
		t.Fatal(v, e, b)
	}
	clear(b)
	want := list(integer(100), text("ab"))
	if !codec.Same(v, want) {
		t.Error("the value changes with the bytes", v)
	}
	first, _ := codec.Encode(v)
	second, _ := codec.Encode(v)
	clear(first)
	if !bytes.Equal(second, kept[:9]) || !codec.Same(v, want) {
		t.Error("encodings share memory", second, v)
	}
}
