package keys_test

import (
	"crypto/sha256"
	"encoding/binary"
	"math"
	"math/rand"
	"slices"
	"testing"

	"testamur/api"
	"testamur/chains"
	"testamur/digest"
	"testamur/keys"
)

// chainCount is the number of chains of a leaf.
const chainCount = 19

func tagged(tag string, parts ...[]byte) api.Digest {
	name := sha256.Sum256([]byte(tag))
	return sha256.Sum256(slices.Concat(append([][]byte{name[:]}, parts...)...))
}

// leafSeed is the seed of a leaf, by the standard library's hash.
func leafSeed(seed api.Digest, at int) api.Digest {
	return tagged("leaf", seed[:], binary.BigEndian.AppendUint32(nil, uint32(at)))
}

// element is that of a chain of a leaf after some steps.
func element(seed api.Digest, at, chain, steps int) api.Digest {
	own := leafSeed(seed, at)
	x := tagged("chain", own[:], []byte{byte(chain)})
	for range steps {
		x = tagged("step", x[:])
	}
	return x
}

func public(seed api.Digest, at int) api.Digest {
	var all []byte
	for chain := range chainCount {
		x := element(seed, at, chain, 3)
		all = append(all, x[:]...)
	}
	return tagged("public", all)
}

func node(a, b api.Digest) api.Digest { return tagged("node", a[:], b[:]) }

// tree has all levels above the public keys of leaves: neighbours are joined, and one that has none stays as it is.
type tree [][]api.Digest

func newTree(seed api.Digest, many int) (t tree) {
	var level []api.Digest
	for at := range many {
		p := public(seed, at)
		level = append(level, tagged("leaf", p[:]))
	}
	for t = append(t, level); len(level) > 1; t = append(t, level) {
		var above []api.Digest
		for pair := range slices.Chunk(level, 2) {
			if len(pair) == 2 {
				above = append(above, node(pair[0], pair[1]))
			} else {
				above = append(above, pair[0])
			}
		}
		level = above
	}
	return t
}

func (t tree) root() api.Digest { return t[len(t)-1][0] }

func (t tree) path(at int) (path []api.Digest) {
	for _, level := range t {
		if at^1 < len(level) {
			path = append(path, level[at^1])
		}
		at /= 2
	}
	return path
}

func begins(b ...byte) (d api.Digest) {
	copy(d[:], b)
	return d
}

func someDigests(seed int64, n int) (l []api.Digest) {
	random := rand.New(rand.NewSource(seed))
	for range n {
		var d api.Digest
		random.Read(d[:])
		l = append(l, d)
	}
	return l
}

// someMessages are messages with the least and the greatest digits, with equal first bytes, with equal sums of digits, and any ones.
func someMessages() []api.Digest {
	l := []api.Digest{
		begins(0, 0, 0, 0, 1), begins(255, 255, 255, 255), begins(255, 255, 255, 255, 1),
		begins(27, 228, 0, 1), begins(27, 228, 0, 1, 7), {0: 27, 1: 228, 3: 1, 31: 7},
		begins(64), begins(128), begins(192), begins(0, 0, 0, 1), begins(0, 0, 0, 2), begins(0, 0, 0, 3),
		begins(4, 1), begins(1, 4), begins(255, 255, 255, 254), begins(63, 255, 255, 255),
		begins(12, 255, 255, 255), begins(15, 255, 255, 255), begins(85, 85, 85, 85), begins(170, 170, 170, 170),
	}
	return append(l, someDigests(1, 12)...)
}

func isSame(a, b api.Leaf) bool {
	return a.Index == b.Index && slices.Equal(a.Chains, b.Chains) && slices.Equal(a.Path, b.Path)
}

func copyOf(s api.Leaf) api.Leaf {
	return api.Leaf{Index: s.Index, Chains: slices.Clone(s.Chains), Path: slices.Clone(s.Path)}
}

// invalidMany are no numbers of leaves; the lowest bits of some of them are.
var invalidMany = []int{0, -1, -2, -256, 257, 258, 512, 1 << 8 << 8, 1<<16 + 2, 1<<32 + 1, 1<<32 + 256, math.MaxInt, math.MinInt, math.MinInt + 1}

func TestSeed(t *testing.T) { // P6.1
	numbers := []int{0, 1, 2, 127, 128, 255, 256, 257, 258, 65535, 65536, 1<<24 - 1, 1 << 24, 0x01020304, 1<<31 - 1, 1 << 31, 1<<32 - 1, 1 << 32, 1<<32 + 5, 1<<40 + 3}
	numbers = append(numbers, -1, -2, -255, -256, -257, -65536, -1<<31, -1<<31-1, -1<<32, math.MinInt, math.MinInt+1, math.MaxInt, math.MaxInt-1)
	for _, seed := range append(someDigests(2, 10), api.Digest{}, api.Digest{31: 1}) {
		for _, at := range numbers {
			if got := keys.Seed(seed, at); got != leafSeed(seed, at) {
				t.Errorf("%x %d: %x", seed[:4], at, got)
			}
		}
	}
}

// TestSeedExamples writes the four bytes out.
func TestSeedExamples(t *testing.T) { // P6.1
	seed := begins(9, 8, 7)
	for _, x := range []struct {
		at   int
		want []byte
	}{
		{0, []byte{0, 0, 0, 0}},
		{5, []byte{0, 0, 0, 5}},
		{258, []byte{0, 0, 1, 2}},
		{0x01020304, []byte{1, 2, 3, 4}},
		{-1, []byte{255, 255, 255, 255}},
		{-2, []byte{255, 255, 255, 254}},
		{1<<32 + 5, []byte{0, 0, 0, 5}},
		{-1<<32 + 5, []byte{0, 0, 0, 5}},
		{math.MinInt, []byte{0, 0, 0, 0}},
		{math.MaxInt, []byte{255, 255, 255, 255}},
	} {
		if keys.Seed(seed, x.at) != tagged("leaf", seed[:], x.want) {
			t.Error(x.at)
		}
	}
}

func TestRoot(t *testing.T) { // P6.1
	seen := map[api.Digest]bool{}
	for _, seed := range []api.Digest{{}, begins(1), {31: 1}} {
		for _, many := range []int{1, 2, 3, 4, 5, 6, 7, 8, 9, 11, 15, 16, 17, 31, 33, 255, 256} {
			root, e := keys.Root(seed, many)
			if e != api.OK || root != newTree(seed, many).root() {
				t.Errorf("%x %d: %x %d", seed, many, root, e)
			}
			if seen[root] {
				t.Errorf("%x %d: the root of another tree", seed, many)
			}
			seen[root] = true
		}
	}
}

func TestRootOfOneLeaf(t *testing.T) { // P6.1
	seed := begins(4)
	root, e := keys.Root(seed, 1)
	if e != api.OK || root != digest.Tree([]api.Digest{chains.Public(keys.Seed(seed, 0))}) {
		t.Error(root, e)
	}
}

func TestInvalidTrees(t *testing.T) { // P6.1
	for _, many := range invalidMany {
		if root, e := keys.Root(begins(1), many); e != api.ErrKeys || root != (api.Digest{}) {
			t.Error("Root", many, root, e)
		}
		for _, at := range []int{0, 1, -1, many, many - 1} {
			if s, e := keys.Sign(begins(1), many, at, begins(2)); e != api.ErrKeys || !isSame(s, api.Leaf{}) {
				t.Error("Sign", many, at, s, e)
			}
		}
	}
}

func TestSign(t *testing.T) { // P6.1
	seed := begins(5)
	for _, many := range []int{1, 2, 3, 4, 5, 7, 8, 13} {
		all := newTree(seed, many)
		for at := range many {
			m := someMessages()[(3*many+at)%20]
			want := api.Leaf{Index: at, Path: all.path(at)}
			for chain, digit := range chains.Digits(m) {
				want.Chains = append(want.Chains, element(seed, at, chain, digit))
			}
			if s, e := keys.Sign(seed, many, at, m); e != api.OK || !isSame(s, want) {
				t.Error(many, at, e)
			}
		}
	}
}

// TestSignLargest signs with leaves of the largest trees, whose indices are at the ends of the parts of the tree.
func TestSignLargest(t *testing.T) { // P6.1
	seed, m := begins(6), begins(27, 228, 99, 130)
	for _, many := range []int{255, 256} {
		all := newTree(seed, many)
		for _, at := range []int{0, 1, 127, 128, 253, 254, 255} {
			s, e := keys.Sign(seed, many, at, m)
			if at >= many {
				if e != api.ErrKeys || !isSame(s, api.Leaf{}) {
					t.Error(many, at, s, e)
				}
				continue
			}
			want := api.Leaf{Index: at, Chains: chains.Sign(leafSeed(seed, at), m), Path: all.path(at)}
			if e != api.OK || !isSame(s, want) {
				t.Error(many, at, e)
			}
		}
	}
}

func TestInvalidLeaves(t *testing.T) { // P6.1
	for _, many := range []int{1, 2, 3, 4, 256} {
		for _, at := range []int{-1, -2, -many, many, many + 1, 256, 257, 1 << 32, 1<<32 + 1, math.MaxInt, math.MinInt} {
			if s, e := keys.Sign(begins(1), many, at, begins(2)); e != api.ErrKeys || !isSame(s, api.Leaf{}) {
				t.Error(many, at, s, e)
			}
		}
	}
}

// climb leads from a public key to a root, level by level. It takes as many elements of the path as there are neighbours.
func climb(d api.Digest, at, n int, path []api.Digest) (root api.Digest, used int) {
	for root = tagged("leaf", d[:]); n > 1; at, n = at/2, (n+1)/2 {
		if at^1 >= n {
			continue
		}
		if used < len(path) && at%2 == 0 {
			root = node(root, path[used])
		} else if used < len(path) {
			root = node(path[used], root)
		}
		used++
	}
	return root, used
}

// TestVerifyAny verifies any elements and paths, which no seed has made, for the root to which they lead.
func TestVerifyAny(t *testing.T) { // P6.2
	elements, path := someDigests(3, chainCount), someDigests(4, 12)
	for _, many := range []int{1, 2, 3, 4, 5, 6, 7, 9, 100, 128, 129, 200, 255, 256} {
		for at := range many {
			if many > 9 && at%41 > 1 && at < many-2 {
				continue
			}
			m := someMessages()[(many+at)%20]
			recovered, _ := chains.Recover(m, elements)
			root, used := climb(recovered, at, many, path)
			for n := range path {
				s := api.Leaf{Index: at, Chains: elements, Path: path[:n]}
				want := api.ErrKeys
				if n == used {
					want = api.OK
				}
				if e := keys.Verify(root, many, m, s); e != want {
					t.Error(many, at, n, e)
				}
			}
		}
	}
}

// TestVerifyManyLeaves climbs rightly to the root of trees that have too many leaves.
func TestVerifyManyLeaves(t *testing.T) { // P6.2
	m, elements, path := begins(1, 2, 3), someDigests(5, chainCount), someDigests(6, 70)
	recovered, _ := chains.Recover(m, elements)
	for _, many := range append(slices.Clone(invalidMany), 1<<40) {
		for _, at := range []int{0, 1, 200, 256, many - 1} {
			for n := range 70 {
				s := api.Leaf{Index: at, Chains: elements, Path: path[:n]}
				root, _ := digest.Climb(recovered, at, many, path[:n])
				if e := keys.Verify(root, many, m, s); e != api.ErrKeys {
					t.Error(many, at, n, e)
				}
			}
		}
	}
}

// TestVerifyInvalid also gives the zero root, which is what calls that fail return.
func TestVerifyInvalid(t *testing.T) { // P6.2
	seed, m := begins(7), begins(1, 2, 3)
	right, e := keys.Sign(seed, 3, 1, m)
	root := newTree(seed, 3).root()
	if e != api.OK || keys.Verify(root, 3, m, right) != api.OK {
		t.Fatal("the right signature", e)
	}
	more := append(slices.Clone(right.Chains), someDigests(7, 20)...)
	var wrong []api.Leaf
	for n := range more {
		if n != chainCount {
			wrong = append(wrong, api.Leaf{Index: 1, Chains: more[:n], Path: right.Path})
		}
	}
	for _, at := range []int{-1, -2, -3, 0, 2, 3, 4, 1 << 32, 1<<32 + 1, math.MaxInt, math.MinInt, math.MinInt + 1} {
		wrong = append(wrong, api.Leaf{Index: at, Chains: right.Chains, Path: right.Path})
	}
	longer := append(slices.Clone(right.Path), someDigests(8, 3)...)
	for _, path := range [][]api.Digest{nil, right.Path[:1], right.Path[1:], longer[:3], longer, {right.Path[1], right.Path[0]}} {
		wrong = append(wrong, api.Leaf{Index: 1, Chains: right.Chains, Path: path})
	}
	for i, s := range append(wrong, api.Leaf{}, api.Leaf{Index: 1}) {
		for _, r := range []api.Digest{root, {}} {
			if e := keys.Verify(r, 3, m, s); e != api.ErrKeys {
				t.Error(i, e)
			}
		}
	}
	for _, many := range []int{1, 2, 5, 6, 256} { // of 4 leaves, the path would be that of a tree with this root
		if e := keys.Verify(root, many, m, right); e != api.ErrKeys {
			t.Error("a tree with", many, e)
		}
	}
	if e := keys.Verify(begins(1), 1, begins(2), api.Leaf{}); e != api.ErrKeys {
		t.Error("the zero signature", e)
	}
}

// TestVerifyBits changes one bit of each byte of a root, an element, a path, and a message, of which only the first four bytes matter.
func TestVerifyBits(t *testing.T) { // P6.2
	seed, m := begins(8), begins(27, 228, 99, 130)
	s, _ := keys.Sign(seed, 6, 2, m)
	root := newTree(seed, 6).root()
	verify := func(what string, at, place int, root, m api.Digest, s api.Leaf, want api.Errno) {
		if e := keys.Verify(root, 6, m, s); e != want {
			t.Error(what, at, place, e)
		}
	}
	flip := func(d api.Digest, place int) api.Digest {
		d[place] ^= 1 << (place % 8)
		return d
	}
	for place := range root {
		verify("root", 0, place, flip(root, place), m, s, api.ErrKeys)
		want := api.OK
		if place < 4 {
			want = api.ErrKeys
		}
		verify("message", 0, place, root, flip(m, place), s, want)
		for i := range s.Path {
			other := copyOf(s)
			other.Path[i] = flip(s.Path[i], place)
			verify("path", i, place, root, m, other, api.ErrKeys)
		}
		for i := range s.Chains {
			other := copyOf(s)
			other.Chains[i] = flip(s.Chains[i], place)
			verify("element", i, place, root, m, other, api.ErrKeys)
		}
	}
}

// forged says what the chapter says of a signature that the owner of the seed made: it shows the elements that the chains really have.
func forged(before, m api.Digest) (kind, at int) {
	d, e := chains.Digits(m), slices.Repeat([]int{3}, chainCount)
	if before != (api.Digest{}) {
		e = chains.Digits(before)
		if before == m {
			return 0, 0
		}
		if [4]byte(before[:4]) == [4]byte(m[:4]) {
			return 1, 0
		}
	}
	for i := chainCount - 1; i >= 0; i-- {
		if d[i] < e[i] {
			kind, at = 2, i
		}
	}
	return kind, at
}

func TestForged(t *testing.T) { // P6.3
	seed := begins(10)
	messages := append(someMessages(), api.Digest{})
	for _, m := range messages {
		s, _ := keys.Sign(seed, 3, 1, m)
		for i, before := range messages {
			others := someDigests(int64(i), 3)
			wantKind, wantAt := forged(before, m)
			for _, signed := range [][]api.Digest{{m, before, m}, {others[0], before}, {{}, before, {}, m, m}, {others[0], before, others[1]}} {
				if kind, at := keys.Forged(seed, 3, signed, m, s); kind != wantKind || at != wantAt {
					t.Errorf("%x %x %d: %d %d, not %d %d", m[:5], before[:5], len(signed), kind, at, wantKind, wantAt)
				}
			}
		}
	}
}

func TestForgedExamples(t *testing.T) { // P6.3
	seed := begins(11)
	for i, x := range []struct {
		before, m api.Digest
		kind, at  int
	}{
		{begins(1), begins(1), 0, 0},
		{begins(255, 255, 255, 255), begins(255, 255, 255, 255), 0, 0},
		{begins(1), begins(1, 0, 0, 0, 1), 1, 0},
		{api.Digest{31: 1}, api.Digest{}, 1, 0},
		{api.Digest{}, api.Digest{}, 2, 0},                            // nothing was signed, so that the zero message is forged
		{api.Digest{}, api.Digest{31: 1}, 2, 0},                       // the digits are 0, and all elements but the ends were never shown
		{api.Digest{}, begins(255, 255, 255, 255), 2, 16},             // 16 digits are 3
		{api.Digest{}, begins(255, 255, 255, 254), 2, 15},             // 15 digits are 3
		{api.Digest{}, begins(252, 255, 255, 255), 2, 3},              // 3 digits are 3
		{begins(64), begins(0, 0, 0, 0, 1), 2, 0},                     // 1 and 0
		{begins(0, 0, 0, 0, 1), begins(64), 2, 16},                    // the sums are 48 and 47, 300 and 233 base 4
		{begins(0, 0, 0, 1), begins(0, 0, 0, 2), 2, 18},               // the sums are 47 and 46, 233 and 232 base 4
		{begins(16), begins(4), 2, 1},                                 // exchanged digits
		{begins(4), begins(16), 2, 2},                                 // exchanged digits
		{begins(12, 255, 255, 255), begins(15, 255, 255, 255), 2, 17}, // the sums are 9 and 6, 021 and 012 base 4
	} {
		s, _ := keys.Sign(seed, 1, 0, x.m)
		if kind, at := keys.Forged(seed, 1, []api.Digest{x.before}, x.m, s); kind != x.kind || at != x.at {
			t.Error(i, kind, at)
		}
	}
}

// TestForgedShortLists has no message for the leaf.
func TestForgedShortLists(t *testing.T) { // P6.3
	seed := begins(12)
	for _, m := range someMessages() {
		s, _ := keys.Sign(seed, 4, 2, m)
		wantKind, wantAt := forged(api.Digest{}, m)
		for i, signed := range [][]api.Digest{nil, {}, {m}, {m, m}, {m, m, {}}, {m, m, {}, m}, {{}, {}, {}, {}}} {
			if kind, at := keys.Forged(seed, 4, signed, m, s); kind != wantKind || at != wantAt {
				t.Errorf("%x %d: %d %d", m[:5], i, kind, at)
			}
		}
	}
}

func TestForgedLargest(t *testing.T) { // P6.3
	seed, m, before := begins(13), begins(4), begins(16)
	signed := slices.Repeat([]api.Digest{m}, 300)
	signed[255] = before
	s, _ := keys.Sign(seed, 256, 255, m)
	if kind, at := keys.Forged(seed, 256, signed, m, s); kind != 2 || at != 1 {
		t.Error(kind, at)
	}
	signed[255] = m
	if kind, at := keys.Forged(seed, 256, signed, m, s); kind != 0 || at != 0 {
		t.Error(kind, at)
	}
}

// TestForgedNotAccepted gives what Verify does not accept.
func TestForgedNotAccepted(t *testing.T) { // P6.3
	seed, m := begins(14), begins(64)
	right, _ := keys.Sign(seed, 3, 1, m)
	check := func(what string, seed api.Digest, many int, m api.Digest, s api.Leaf) {
		for _, signed := range [][]api.Digest{nil, {begins(1), begins(2), begins(3)}, {{}, begins(64, 0, 0, 0, 1)}} {
			if kind, at := keys.Forged(seed, many, signed, m, s); kind != 0 || at != 0 {
				t.Error(what, many, s.Index, kind, at)
			}
		}
	}
	for _, many := range invalidMany {
		check("an invalid tree", seed, many, m, right)
		check("an invalid tree, the zero signature", seed, many, m, api.Leaf{})
	}
	for _, many := range []int{1, 2, 4, 5} {
		check("another tree", seed, many, m, right)
	}
	check("another seed", begins(15), 3, m, right)
	check("another message", seed, 3, begins(128), right)
	check("the zero signature", seed, 3, m, api.Leaf{})
	for _, at := range []int{0, 2, 3, -1, math.MinInt, math.MaxInt, 1<<32 + 1} {
		s := copyOf(right)
		s.Index = at
		check("another index", seed, 3, m, s)
	}
	for chain := range right.Chains {
		s := copyOf(right)
		s.Chains[chain] = begins(1)
		check("another element", seed, 3, m, s)
	}
	check("few elements", seed, 3, m, api.Leaf{Index: 1, Chains: right.Chains[:18], Path: right.Path})
	check("a short path", seed, 3, m, api.Leaf{Index: 1, Chains: right.Chains, Path: right.Path[:1]})
	s := copyOf(right)
	s.Path[0][31] ^= 1
	check("another path", seed, 3, m, s)
}

func TestSignedIsVerified(t *testing.T) { // P6.4
	for _, seed := range append(someDigests(16, 2), api.Digest{}) {
		for _, many := range []int{1, 2, 3, 6, 9} {
			root, _ := keys.Root(seed, many)
			for at := range many {
				for _, m := range append(someMessages()[:8], api.Digest{}) {
					s, e := keys.Sign(seed, many, at, m)
					if v := keys.Verify(root, many, m, s); e != api.OK || v != api.OK {
						t.Errorf("%x %d %d %x: %d %d", seed[:4], many, at, m[:5], e, v)
					}
				}
			}
		}
	}
}

// mixed makes a signature of a message from two of other messages, as somebody without the seed can who has seen both.
func mixed(m api.Digest, a api.Leaf, digitsA []int, b api.Leaf, digitsB []int) (s api.Leaf, ok bool) {
	s = copyOf(a)
	for i, digit := range chains.Digits(m) {
		x, from := a.Chains[i], digitsA[i]
		if digitsB[i] < from {
			x, from = b.Chains[i], digitsB[i]
		}
		if digit < from {
			return s, false
		}
		for range digit - from {
			x = tagged("step", x[:])
		}
		s.Chains[i] = x
	}
	return s, true
}

// TestForgedIsSo forges messages from two signatures by one leaf, of which only one is accounted for.
func TestForgedIsSo(t *testing.T) { // P6.4
	seed := begins(17)
	root, _ := keys.Root(seed, 5)
	first, second := begins(0, 255, 27, 8), begins(255, 0, 228, 99)
	a, _ := keys.Sign(seed, 5, 3, first)
	b, _ := keys.Sign(seed, 5, 3, second)
	made := 0
	for _, m := range append(someDigests(18, 3000), first, second, begins(0, 255, 27, 8, 1)) {
		s, ok := mixed(m, a, chains.Digits(first), b, chains.Digits(second))
		if !ok {
			continue
		}
		made++
		if e := keys.Verify(root, 5, m, s); e != api.OK {
			t.Fatalf("%x: %d", m[:5], e)
		}
		for _, before := range []api.Digest{first, second, {}} {
			kind, at := keys.Forged(seed, 5, []api.Digest{{}, {}, {}, before}, m, s)
			if !isSo(seed, before, m, s, kind, at) {
				t.Errorf("%x %x: %d %d", m[:5], before[:5], kind, at)
			}
		}
	}
	if made < 10 {
		t.Error("only", made, "signatures were made")
	}
}

// isSo looks at the chains for what is said of a signature.
func isSo(seed, before, m api.Digest, s api.Leaf, kind, at int) bool {
	d, e := chains.Digits(m), chains.Digits(before)
	switch kind {
	case 0:
		return m == before && at == 0
	case 1:
		return m != before && [4]byte(m[:4]) == [4]byte(before[:4]) && at == 0
	case 2:
		shown := 3
		if before != (api.Digest{}) {
			shown = e[at]
		}
		return d[at] < shown && s.Chains[at] == element(seed, s.Index, at, d[at])
	}
	return false
}

func TestPathStays(t *testing.T) { // P6.4
	seed := begins(19)
	for _, many := range []int{1, 2, 5, 8} {
		for at := range many {
			first, _ := keys.Sign(seed, many, at, begins(1))
			for other := range many {
				keys.Sign(seed, many, other, begins(byte(other), 2))
				for _, m := range someMessages()[:6] {
					if s, e := keys.Sign(seed, many, at, m); e != api.OK || !slices.Equal(s.Path, first.Path) {
						t.Errorf("%d %d %x: %d", many, at, m[:5], e)
					}
				}
			}
		}
	}
}

func TestPure(t *testing.T) { // R2
	seed, m := begins(20), begins(16)
	s, _ := keys.Sign(seed, 5, 2, m)
	want := copyOf(s)
	signed := []api.Digest{{}, {}, begins(4), m}
	before := slices.Clone(signed)
	root, _ := keys.Root(seed, 5)
	keys.Verify(root, 5, m, s)
	keys.Forged(seed, 5, signed, m, s)
	if !isSame(s, want) || !slices.Equal(signed, before) {
		t.Error("the arguments have changed")
	}
	again, _ := keys.Sign(seed, 5, 2, m)
	clear(s.Chains[:cap(s.Chains)])
	if !slices.Equal(s.Path, want.Path) {
		t.Error("elements and path share memory")
	}
	clear(s.Path[:cap(s.Path)])
	if !isSame(again, want) {
		t.Error("results share memory")
	}
	if third, e := keys.Sign(seed, 5, 2, m); e != api.OK || !isSame(third, want) {
		t.Error("equal calls return different results")
	}
}

func TestEmptySlices(t *testing.T) { // R3
	seed, m := begins(21), begins(1)
	s, _ := keys.Sign(seed, 1, 0, m)
	root, _ := keys.Root(seed, 1)
	for _, empty := range [][]api.Digest{nil, {}} {
		if e := keys.Verify(root, 1, m, api.Leaf{Chains: s.Chains, Path: empty}); e != api.OK {
			t.Error("a path", e)
		}
		if e := keys.Verify(root, 1, m, api.Leaf{Chains: empty, Path: s.Path}); e != api.ErrKeys {
			t.Error("elements", e)
		}
		if kind, at := keys.Forged(seed, 1, empty, m, s); kind != 2 || at != 0 {
			t.Error("messages", kind, at)
		}
		if kind, at := keys.Forged(seed, 0, empty, m, api.Leaf{Chains: empty, Path: empty}); kind != 0 || at != 0 {
			t.Error("no tree", kind, at)
		}
	}
}
