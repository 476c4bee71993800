package digest_test

import (
	"bytes"
	"crypto/sha256"
	"encoding/hex"
	"math"
	"math/bits"
	"math/rand"
	"slices"
	"strings"
	"testing"

	"testamur/api"
	"testamur/digest"
)

// sha is a hash by the standard library, on which all references of these tests are built.
func sha(parts ...[]byte) api.Digest { return sha256.Sum256(slices.Concat(parts...)) }

func tagged(tag string, parts ...[]byte) api.Digest {
	name := sha([]byte(tag))
	return sha(name[:], slices.Concat(parts...))
}

func leaf(d api.Digest) api.Digest { return tagged("leaf", d[:]) }

func node(a, b api.Digest) api.Digest { return tagged("node", a[:], b[:]) }

// level returns the digests of pairs of neighbours; one that has no neighbour stays as it is. Repeated, this leads to the same tree as the chapter's division into two parts, but by another way.
func level(l []api.Digest) (above []api.Digest) {
	for pair := range slices.Chunk(l, 2) {
		if len(pair) == 2 {
			above = append(above, node(pair[0], pair[1]))
		} else {
			above = append(above, pair[0])
		}
	}
	return above
}

// levels returns the leaves of a list that is not empty, and all levels above them, up to its digest alone.
func levels(l []api.Digest) (all [][]api.Digest) {
	var leaves []api.Digest
	for _, d := range l {
		leaves = append(leaves, leaf(d))
	}
	all = append(all, leaves)
	for last := leaves; len(last) > 1; {
		last = level(last)
		all = append(all, last)
	}
	return all
}

func rootOf(all [][]api.Digest) api.Digest { return all[len(all)-1][0] }

// pathIn returns the neighbours on the way from a leaf to the digest.
func pathIn(all [][]api.Digest, at int) (path []api.Digest) {
	for _, l := range all {
		if at^1 < len(l) {
			path = append(path, l[at^1])
		}
		at /= 2
	}
	return path
}

// climb leads from an element to a digest, level by level. It takes as many elements of the path as there are neighbours, and returns how many these are.
func climb(d api.Digest, at, n int, path []api.Digest) (root api.Digest, used int) {
	for root = leaf(d); n > 1; at, n = at/2, (n+1)/2 {
		if at^1 >= n {
			continue
		}
		if used < len(path) {
			if at%2 == 0 {
				root = node(root, path[used])
			} else {
				root = node(path[used], root)
			}
		}
		used++
	}
	return root, used
}

func someBytes(random *rand.Rand, n int) []byte {
	b := make([]byte, n)
	random.Read(b)
	return b
}

// someDigests are digests that are made at random, always the same ones.
func someDigests(n int) (l []api.Digest) {
	random := rand.New(rand.NewSource(int64(n)))
	for range n {
		l = append(l, api.Digest(someBytes(random, 32)))
	}
	return l
}

// someSizes are the sizes of lists that tests go through: all small ones, and those around powers of 2.
func someSizes() (sizes []int) {
	for n := 1; n <= 40; n++ {
		sizes = append(sizes, n)
	}
	for _, power := range []int{64, 128, 256} {
		sizes = append(sizes, power-1, power, power+1)
	}
	return append(sizes, 100, 200, 333)
}

// wide are sizes of lists that are too long to be made, up to the greatest one.
func wide() (sizes []int) {
	for bit := 20; bit <= 40; bit++ {
		sizes = append(sizes, 1<<bit-1, 1<<bit)
		if bit < 40 {
			sizes = append(sizes, 1<<bit+1, 1<<bit+1<<(bit/2), 1<<bit|0x55555555%(1<<bit))
		}
	}
	return sizes
}

func TestSumExamples(t *testing.T) { // P2.1
	for _, x := range []struct{ b, want string }{
		{"", "e3b0c44298fc1c149afbf4c8996fb92427ae41e4649b934ca495991b7852b855"},
		{"abc", "ba7816bf8f01cfea414140de5dae2223b00361a396177a9cb410ff61f20015ad"},
		{"abcdbcdecdefdefgefghfghighijhijkijkljklmklmnlmnomnopnopq", "248d6a61d20638b8e5c026930c3e6039a33ce45964ff2167f6ecedd419db06c1"},
		{strings.Repeat("a", 1000000), "cdc76e5c9914fb9281a1c7e284d73e67f1809a48a497200e046d39ccc7112cd0"},
	} {
		if d := digest.Sum([]byte(x.b)); hex.EncodeToString(d[:]) != x.want {
			t.Errorf("%.20s: %x", x.b, d)
		}
	}
}

// TestSumLengths sums up bytes of all lengths up to several blocks, so that all paddings occur, and of some greater lengths.
func TestSumLengths(t *testing.T) { // P2.1
	random := rand.New(rand.NewSource(1))
	lengths := []int{1<<13 - 1, 1 << 13, 1<<16 - 9, 1<<16 - 8, 1 << 16, 1<<21 - 1, 1 << 21, 1<<21 + 1}
	for n := range 700 {
		lengths = append(lengths, n)
	}
	for _, n := range lengths {
		for _, b := range [][]byte{someBytes(random, n), make([]byte, n), bytes.Repeat([]byte{255}, n), bytes.Repeat([]byte{128}, n)} {
			if d := digest.Sum(b); d != sha(b) {
				t.Fatalf("%d bytes from %x: %x", n, b[:min(n, 8)], d)
			}
		}
	}
}

// TestSumBits changes each bit of some bytes, so that every bit of every word of a block counts.
func TestSumBits(t *testing.T) { // P2.1
	for _, n := range []int{55, 64, 130} {
		b := make([]byte, n)
		for bit := range 8 * n {
			b[bit/8] ^= 1 << (bit % 8)
			if d := digest.Sum(b); d != sha(b) {
				t.Fatal(n, bit, d)
			}
			b[bit/8] ^= 1 << (bit % 8)
		}
	}
}

// TestSumLong sums up so many bytes that the number of their bits has more than 32 bits.
func TestSumLong(t *testing.T) { // P2.1
	t.Parallel()
	b := make([]byte, 1<<29+3)
	if d := digest.Sum(b); d != sha256.Sum256(b) {
		t.Error(d)
	}
}

func TestTagged(t *testing.T) { // P2.1
	random := rand.New(rand.NewSource(2))
	none := digest.Sum(nil)
	if digest.Tagged("", nil) != digest.Sum(none[:]) {
		t.Error("the empty tag and no bytes")
	}
	tags := []string{"", "a", "leaf", "node", "empty", "chain", "\x00", "\xff\xfe", "é", "leaf ", "Leaf", strings.Repeat("x", 55), strings.Repeat("x", 64), strings.Repeat("x", 1000)}
	seen := map[api.Digest]string{}
	for _, tag := range tags {
		for _, n := range []int{0, 1, 22, 23, 24, 31, 32, 33, 64, 95, 96, 97, 1000} {
			b := someBytes(random, n)
			d, name := digest.Tagged(tag, b), digest.Sum([]byte(tag))
			if d != tagged(tag, b) || d != digest.Sum(append(name[:], b...)) {
				t.Errorf("%.10q %d: %x", tag, n, d)
			}
		}
		d := digest.Tagged(tag, []byte("same"))
		if other, ok := seen[d]; ok {
			t.Error("one digest under two tags", tag, other)
		}
		seen[d] = tag
	}
}

func TestTreeExamples(t *testing.T) { // P2.2
	l := someDigests(7)
	pair := func(at int) api.Digest { return node(leaf(l[at]), leaf(l[at+1])) }
	four := node(pair(0), pair(2))
	for n, want := range []api.Digest{
		tagged("empty"),
		leaf(l[0]),
		pair(0),
		node(pair(0), leaf(l[2])),
		four,
		node(four, leaf(l[4])),
		node(four, pair(4)),
		node(four, node(pair(4), leaf(l[6]))),
	} {
		if d := digest.Tree(l[:n]); d != want {
			t.Errorf("%d: %x", n, d)
		}
	}
}

func TestPathExamples(t *testing.T) { // P2.2
	l := someDigests(7)
	pair := func(at int) api.Digest { return node(leaf(l[at]), leaf(l[at+1])) }
	four := node(pair(0), pair(2))
	for i, x := range []struct {
		n, at int
		want  []api.Digest
	}{
		{1, 0, nil},
		{2, 0, []api.Digest{leaf(l[1])}},
		{2, 1, []api.Digest{leaf(l[0])}},
		{3, 0, []api.Digest{leaf(l[1]), leaf(l[2])}},
		{3, 1, []api.Digest{leaf(l[0]), leaf(l[2])}},
		{3, 2, []api.Digest{pair(0)}},
		{5, 2, []api.Digest{leaf(l[3]), pair(0), leaf(l[4])}},
		{5, 4, []api.Digest{four}},
		{7, 3, []api.Digest{leaf(l[2]), pair(0), node(pair(4), leaf(l[6]))}},
		{7, 4, []api.Digest{leaf(l[5]), leaf(l[6]), four}},
		{7, 6, []api.Digest{pair(4), four}},
	} {
		if path, e := digest.Path(l[:x.n], x.at); e != api.OK || !slices.Equal(path, x.want) {
			t.Error(i, path, e)
		}
		if root, e := digest.Climb(l[x.at], x.at, x.n, x.want); e != api.OK || root != digest.Tree(l[:x.n]) {
			t.Error(i, root, e)
		}
	}
}

func TestTreeReference(t *testing.T) { // P2.2
	for _, n := range someSizes() {
		l := someDigests(n)
		all := levels(l)
		if d := digest.Tree(l); d != rootOf(all) {
			t.Errorf("%d: %x", n, d)
		}
		for at := range l {
			if path, e := digest.Path(l, at); e != api.OK || !slices.Equal(path, pathIn(all, at)) {
				t.Error(n, at, path, e)
			}
		}
	}
}

// TestTreeContents tells lists apart that have elements in common.
func TestTreeContents(t *testing.T) { // P2.2
	l := someDigests(9)
	seen := map[api.Digest]bool{}
	lists := [][]api.Digest{{}, {{}}, {{}, {}}, {{}, {}, {}}}
	for n := range l {
		lists = append(lists, l[:n+1])
		if n > 0 {
			lists = append(lists, l[n:], append(slices.Clone(l[n:]), l[:n]...), append(slices.Clone(l[:n]), l[n-1]))
		}
	}
	for i, list := range lists {
		d := digest.Tree(list)
		if seen[d] {
			t.Error(i, len(list))
		}
		seen[d] = true
	}
}

func TestPathErrors(t *testing.T) { // P2.2
	l := someDigests(9)
	for n := range l {
		for _, at := range []int{-1, n, n + 1, -n - 1, 1 << 32, -1 << 32, math.MaxInt, math.MinInt} {
			if path, e := digest.Path(l[:n], at); e != api.ErrArg || len(path) > 0 {
				t.Error(n, at, path, e)
			}
		}
	}
	if path, e := digest.Path(nil, 0); e != api.ErrArg || len(path) > 0 {
		t.Error(path, e)
	}
}

// TestClimbReference climbs paths that lead anywhere, also in lists that are too long to be made.
func TestClimbReference(t *testing.T) { // P2.2
	random := rand.New(rand.NewSource(3))
	elements := someDigests(41)
	d := elements[40]
	for _, n := range append(someSizes(), wide()...) {
		places := []int{0, 1, 2, n / 2, n/2 - 1, n - 3, n - 2, n - 1}
		for range 5 {
			places = append(places, random.Intn(n))
		}
		for _, at := range places {
			if at < 0 || at >= n {
				continue
			}
			want, used := climb(d, at, n, elements)
			if root, e := digest.Climb(d, at, n, elements[:used]); e != api.OK || root != want {
				t.Error(n, at, root, e)
			}
		}
	}
}

func TestClimbErrors(t *testing.T) { // P2.2
	elements := someDigests(100)
	wrong := func(at, n, length int) {
		t.Helper()
		if root, e := digest.Climb(elements[0], at, n, elements[:length]); e != api.ErrArg || root != (api.Digest{}) {
			t.Error(at, n, length, root, e)
		}
	}
	for _, n := range []int{0, -1, -2, -1 << 40, 1<<40 + 1, 1 << 41, 1 << 62, math.MaxInt, math.MinInt} {
		for _, at := range []int{0, 1, -1, n - 1, n} {
			for _, length := range []int{0, 1, 39, 40, 41, 62, 63, 64} {
				wrong(at, n, length)
			}
		}
	}
	for _, n := range append(someSizes(), wide()...) {
		for _, at := range []int{-1, n, n + 1, -n, math.MaxInt, math.MinInt} {
			for length := range 42 {
				wrong(at, n, length)
			}
		}
		for _, at := range []int{0, n / 2, n - 1} {
			_, used := climb(elements[0], at, n, nil)
			for length := range elements {
				if length != used {
					wrong(at, n, length)
				}
			}
		}
	}
}

func TestChain(t *testing.T) { // P2.3
	zero := api.Digest{}
	if d := digest.Chain(zero, zero); d != tagged("chain", make([]byte, 64)) {
		t.Error("zero digests", d)
	}
	l := someDigests(20)
	for _, a := range l {
		for _, b := range append(l, zero) {
			if d := digest.Chain(a, b); d != tagged("chain", a[:], b[:]) {
				t.Error(a, b, d)
			}
		}
	}
	// The chain of a list is that of the list without its last element, and this element.
	chain := func(list []api.Digest) (end api.Digest) {
		for _, d := range list {
			end = digest.Chain(end, d)
		}
		return end
	}
	for n := range l {
		if chain(l[:n+1]) != digest.Chain(chain(l[:n]), l[n]) {
			t.Error(n)
		}
	}
}

func TestPathsLead(t *testing.T) { // P2.4
	for _, n := range someSizes() {
		l := someDigests(n)
		tree := digest.Tree(l)
		for at, d := range l {
			path, e := digest.Path(l, at)
			root, f := digest.Climb(d, at, n, path)
			if e != api.OK || f != api.OK || root != tree {
				t.Error(n, at, root, e, f)
			}
			if len(path) > bits.Len(uint(n-1)) {
				t.Error(n, at, "the path has", len(path), "elements")
			}
			// Another element, or another place, leads somewhere else.
			if other, _ := digest.Climb(api.Digest{1}, at, n, path); other == tree {
				t.Error(n, at, "another element")
			}
			if other, _ := digest.Climb(d, (at+1)%n, n, path); n > 1 && other == tree {
				t.Error(n, at, "another place")
			}
		}
	}
}

// TestPathLengths finds the one length of a path that Climb accepts.
func TestPathLengths(t *testing.T) { // P2.4
	elements := make([]api.Digest, 100)
	for _, n := range wide() {
		for _, at := range []int{0, 1, n / 3, n - 2, n - 1} {
			var accepted []int
			for length := range elements {
				if _, e := digest.Climb(api.Digest{}, at, n, elements[:length]); e == api.OK {
					accepted = append(accepted, length)
				}
			}
			if len(accepted) != 1 || accepted[0] > 40 {
				t.Error(n, at, accepted)
			}
		}
	}
	if _, e := digest.Climb(api.Digest{}, 1<<40-1, 1<<40, elements[:40]); e != api.OK {
		t.Error("the longest path", e)
	}
}

func TestParts(t *testing.T) { // P2.4
	for _, n := range someSizes()[1:] {
		l := someDigests(n)
		first := 1
		for 2*first < n {
			first *= 2
		}
		if digest.Tree(l) != node(digest.Tree(l[:first]), digest.Tree(l[first:])) {
			t.Error(n)
		}
	}
	l := someDigests(1<<10 + 1)
	for n := 1; n < len(l); n *= 2 {
		if digest.Tree(l[:n+1]) != node(digest.Tree(l[:n]), leaf(l[n])) {
			t.Error(n)
		}
	}
}

func TestPure(t *testing.T) { // R2
	b := someBytes(rand.New(rand.NewSource(4)), 300)
	kept := slices.Clone(b)
	for n := range b { // what is behind the bytes must stay
		digest.Sum(b[:n])
		digest.Tagged("leaf", b[:n])
	}
	if !bytes.Equal(b, kept) {
		t.Error("the bytes have changed")
	}
	l := someDigests(20)
	elements := slices.Clone(l)
	for n := 1; n < len(l); n++ {
		digest.Tree(l[:n])
		for at := range n {
			path, _ := digest.Path(l[:n], at)
			again, _ := digest.Path(l[:n], at)
			want := slices.Clone(path)
			if _, e := digest.Climb(l[at], at, n, path); e != api.OK || !slices.Equal(path, want) {
				t.Error(n, at, "the path has changed", e)
			}
			clear(path[:cap(path)])
			if !slices.Equal(again, want) {
				t.Error(n, at, "paths share memory")
			}
		}
	}
	if !slices.Equal(l, elements) {
		t.Error("the list has changed")
	}
}

func TestEmptySlices(t *testing.T) { // R3
	if digest.Sum(nil) != digest.Sum([]byte{}) || digest.Tagged("x", nil) != digest.Tagged("x", []byte{}) {
		t.Error("bytes")
	}
	if digest.Tree(nil) != digest.Tree([]api.Digest{}) {
		t.Error("Tree")
	}
	for _, path := range [][]api.Digest{nil, {}} {
		if root, e := digest.Climb(api.Digest{7}, 0, 1, path); e != api.OK || root != digest.Tree([]api.Digest{{7}}) {
			t.Error(root, e)
		}
		if _, e := digest.Climb(api.Digest{7}, 0, 2, path); e != api.ErrArg {
			t.Error(e)
		}
	}
}
