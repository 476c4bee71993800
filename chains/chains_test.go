package chains_test

import (
	"crypto/sha256"
	"math/rand"
	"slices"
	"strconv"
	"strings"
	"testing"

	"testamur/api"
	"testamur/chains"
)

// many is the number of chains.
const many = 19

func tagged(tag string, parts ...[]byte) api.Digest {
	name := sha256.Sum256([]byte(tag))
	return sha256.Sum256(slices.Concat(append([][]byte{name[:]}, parts...)...))
}

// element is that of a chain of a seed after some steps, by the standard library's hash.
func element(seed api.Digest, chain, steps int) api.Digest {
	return after(tagged("chain", seed[:], []byte{byte(chain)}), steps)
}

func after(x api.Digest, steps int) api.Digest {
	if steps == 0 {
		return x
	}
	before := after(x, steps-1)
	return tagged("step", before[:])
}

// public is the public key of some last elements.
func public(ends []api.Digest) api.Digest {
	var all []byte
	for _, x := range ends {
		all = append(all, x[:]...)
	}
	return tagged("public", all)
}

// numeral writes a number base 4, with leading zeros.
func numeral(n, length int) string {
	s := strconv.FormatInt(int64(n), 4)
	return strings.Repeat("0", length-len(s)) + s
}

// written are the digits of a message, one character each, from numerals base 4.
func written(message api.Digest) (s string) {
	for _, b := range message[:4] {
		s += numeral(int(b), 4)
	}
	sum := 0
	for value, c := range "0123" {
		sum += (3 - value) * strings.Count(s, string(c))
	}
	return s + numeral(sum, 3)
}

func digitsOf(message api.Digest) (l []int) {
	for _, c := range written(message) {
		l = append(l, int(c-'0'))
	}
	return l
}

// begins is a message with some first bytes.
func begins(b ...byte) (d api.Digest) {
	copy(d[:], b)
	return d
}

func someDigests(seed int64, n int) (l []api.Digest) {
	random := rand.New(rand.NewSource(seed))
	for range n {
		var d api.Digest
		random.Read(d[:])
		l = append(l, d)
	}
	return l
}

// someMessages are the least and the greatest messages, those with one digit that is not 0 or not 3, neighbours in the sum of their digits, and any ones.
func someMessages() (l []api.Digest) {
	full := begins(255, 255, 255, 255)
	l = []api.Digest{{}, full, begins(27, 228, 0, 1), begins(0, 0, 0, 0, 255), api.Digest(slices.Repeat([]byte{255}, 32))}
	for digit := range 16 {
		for value := range byte(3) {
			low, high := api.Digest{}, full
			low[digit/4] = (value + 1) << (6 - digit%4*2)
			high[digit/4] ^= (value + 1) << (6 - digit%4*2)
			l = append(l, low, high)
		}
	}
	return append(l, someDigests(1, 60)...)
}

func TestDigitsExamples(t *testing.T) { // P5.1
	for i, x := range []struct {
		message api.Digest
		want    string
	}{
		{begins(), "0000000000000000" + "300"},
		{begins(255, 255, 255, 255), "3333333333333333" + "000"},
		{api.Digest(slices.Repeat([]byte{255}, 32)), "3333333333333333" + "000"},
		{begins(27, 27, 27, 27), "0123012301230123" + "120"},
		{begins(228, 27, 0, 255), "3210012300003333" + "120"},
		{begins(0, 0, 0, 1), "0000000000000001" + "233"},
		{begins(0, 0, 0, 3), "0000000000000003" + "231"},
		{begins(64), "1000000000000000" + "233"},
		{begins(192), "3000000000000000" + "231"},
		{begins(255, 255, 255, 254), "3333333333333332" + "001"},
		{begins(63, 255, 255, 255), "0333333333333333" + "003"},
		{begins(15, 255, 255, 255), "0033333333333333" + "012"},
		{begins(0, 0, 0, 0, 255), "0000000000000000" + "300"},
	} {
		var s string
		for _, digit := range chains.Digits(x.message) {
			s += strconv.Itoa(digit)
		}
		if s != x.want {
			t.Error(i, s, x.want)
		}
	}
}

func TestDigitsReference(t *testing.T) { // P5.1
	messages := someMessages()
	for place := range 4 {
		for b := range 256 {
			for _, around := range []byte{0, 255, 27} {
				m := begins(around, around, around, around)
				m[place] = byte(b)
				messages = append(messages, m)
			}
		}
	}
	for _, m := range append(messages, someDigests(2, 2000)...) {
		if l := chains.Digits(m); !slices.Equal(l, digitsOf(m)) {
			t.Errorf("%x: %v", m[:4], l)
		}
	}
}

// TestDigitsFirstBytes changes each byte: only the first four matter.
func TestDigitsFirstBytes(t *testing.T) { // P5.1
	for _, m := range someMessages() {
		l := chains.Digits(m)
		for place := range m {
			other := m
			other[place] ^= 1 << (place % 8)
			if same := slices.Equal(chains.Digits(other), l); same != (place >= 4) {
				t.Errorf("%x %d: %v", m[:4], place, same)
			}
		}
	}
}

func TestPublic(t *testing.T) { // P5.2
	seen := map[api.Digest]bool{}
	for _, seed := range append(someDigests(3, 20), api.Digest{}, begins(1), api.Digest{31: 1}) {
		var ends []api.Digest
		for chain := range many {
			ends = append(ends, element(seed, chain, 3))
		}
		p := chains.Public(seed)
		if p != public(ends) {
			t.Errorf("%x: %x", seed, p)
		}
		if seen[p] {
			t.Errorf("%x: the key of another seed", seed)
		}
		seen[p] = true
	}
}

func TestSignExamples(t *testing.T) { // P5.2
	seed := begins(7)
	greatest := chains.Sign(seed, begins(255, 255, 255, 255))
	least := chains.Sign(seed, api.Digest{})
	if len(greatest) != many || len(least) != many {
		t.Fatal(len(greatest), len(least))
	}
	for chain := range 16 {
		if greatest[chain] != element(seed, chain, 3) || least[chain] != element(seed, chain, 0) {
			t.Error(chain)
		}
	}
	for chain := 16; chain < many; chain++ {
		if greatest[chain] != element(seed, chain, 0) {
			t.Error(chain)
		}
	}
	if least[16] != element(seed, 16, 3) || least[17] != element(seed, 17, 0) || least[18] != element(seed, 18, 0) {
		t.Error("the digits of the sum 48")
	}
}

func TestSignReference(t *testing.T) { // P5.2
	for _, seed := range append(someDigests(4, 3), api.Digest{}) {
		for _, m := range someMessages() {
			var want []api.Digest
			for chain, digit := range digitsOf(m) {
				want = append(want, element(seed, chain, digit))
			}
			if s := chains.Sign(seed, m); !slices.Equal(s, want) {
				t.Errorf("%x %x", seed, m)
			}
		}
	}
}

// TestRecoverReference recovers keys from any elements, most of which are no signature.
func TestRecoverReference(t *testing.T) { // P5.3
	lists := [][]api.Digest{make([]api.Digest, many), someDigests(5, many), someDigests(6, many), chains.Sign(begins(1), begins(2))}
	for _, m := range someMessages() {
		for i, s := range lists {
			var ends []api.Digest
			for chain, digit := range digitsOf(m) {
				ends = append(ends, after(s[chain], 3-digit))
			}
			want := public(ends)
			if p, e := chains.Recover(m, s); e != api.OK || p != want {
				t.Errorf("%x %d: %x %d", m, i, p, e)
			}
			if !chains.Verify(want, m, s) {
				t.Errorf("%x %d: not verified", m, i)
			}
		}
	}
}

// TestWrongLengths verifies too few and too many elements, also for the zero key, which Recover returns together with its error.
func TestWrongLengths(t *testing.T) { // P5.3
	seed := begins(3)
	for _, m := range []api.Digest{{}, begins(255, 255, 255, 255), begins(27, 228)} {
		right := chains.Sign(seed, m)
		long := append(slices.Clone(right), someDigests(7, 300)...)
		for n := range long {
			if n == many {
				continue
			}
			s := long[:n]
			if p, e := chains.Recover(m, s); e != api.ErrChains || p != (api.Digest{}) {
				t.Errorf("%d: %x %d", n, p, e)
			}
			if chains.Verify(api.Digest{}, m, s) || chains.Verify(chains.Public(seed), m, s) {
				t.Error(n, "verified")
			}
		}
		if p, e := chains.Recover(m, nil); e != api.ErrChains || p != (api.Digest{}) || chains.Verify(p, m, nil) {
			t.Error("no elements", p, e)
		}
		if chains.Verify(api.Digest{}, m, right) {
			t.Error("the zero key")
		}
	}
}

func TestVerifyWrong(t *testing.T) { // P5.3
	seed := begins(8)
	p := chains.Public(seed)
	for _, m := range someMessages()[:20] {
		s := chains.Sign(seed, m)
		for place := range p {
			other := p
			other[place] ^= 1 << (place % 8)
			if chains.Verify(other, m, s) {
				t.Errorf("%x: another key, byte %d", m, place)
			}
		}
		for _, other := range someMessages() {
			if same := begins(other[:4]...) == begins(m[:4]...); chains.Verify(p, other, s) != same {
				t.Errorf("%x %x: %v", m, other, !same)
			}
		}
		if chains.Verify(p, m, chains.Sign(begins(9), m)) || chains.Verify(chains.Public(begins(9)), m, s) {
			t.Errorf("%x: another seed", m)
		}
	}
}

// earlier goes through the chains from the last one, so that the first one that is found remains.
func earlier(message, other api.Digest) (chain int, ok bool) {
	a, b := written(message), written(other)
	for i := many - 1; i >= 0; i-- {
		if b[i] < a[i] {
			chain, ok = i, true
		}
	}
	return chain, ok
}

func TestEarlierExamples(t *testing.T) { // P5.4
	s := make([]api.Digest, many)
	for i, x := range []struct {
		message, other api.Digest
		chain          int
		ok             bool
	}{
		{begins(), begins(), 0, false},
		{begins(255, 255, 255, 255), begins(255, 255, 255, 255), 0, false},
		{begins(1, 2, 3, 4, 5), begins(1, 2, 3, 4, 6), 0, false},
		{begins(64), begins(), 0, true},
		{begins(192), begins(128), 0, true},
		{begins(), begins(64), 16, true},
		{begins(0, 0, 0, 1), begins(), 15, true},
		{begins(16, 0, 0, 1), begins(16), 15, true},
		{begins(16), begins(4), 1, true},
		{begins(4), begins(16), 2, true},
		{begins(0, 0, 0, 1), begins(0, 0, 0, 2), 18, true},
		{begins(255, 255, 255, 254), begins(255, 255, 255, 255), 18, true},
		{begins(12, 255, 255, 255), begins(15, 255, 255, 255), 17, true}, // the sums are 9 and 6, 021 and 012 base 4
		{begins(255, 255, 255, 255), begins(), 0, true},
		{begins(), begins(255, 255, 255, 255), 16, true},
	} {
		if chain, ok := chains.Earlier(x.message, s, x.other); chain != x.chain || ok != x.ok {
			t.Error(i, chain, ok)
		}
	}
}

// TestEarlierReference also gives elements that are no signature of the message: only their number matters.
func TestEarlierReference(t *testing.T) { // P5.4
	lists := [][]api.Digest{make([]api.Digest, many), someDigests(8, many)}
	messages := someMessages()
	for _, m := range messages {
		signed := chains.Sign(begins(5), m)
		for _, other := range messages {
			want, wantOK := earlier(m, other)
			for i, s := range append(lists, signed) {
				if chain, ok := chains.Earlier(m, s, other); chain != want || ok != wantOK {
					t.Errorf("%x %x %d: %d %v", m, other, i, chain, ok)
				}
			}
		}
	}
}

func TestEarlierLengths(t *testing.T) { // P5.4
	l := someDigests(9, 60)
	for n := range l {
		chain, ok := chains.Earlier(begins(0, 64), l[:n], api.Digest{})
		if n == many && (chain != 4 || !ok) || n != many && (chain != 0 || ok) {
			t.Error(n, chain, ok)
		}
	}
	if chain, ok := chains.Earlier(begins(0, 64), nil, api.Digest{}); chain != 0 || ok {
		t.Error("no elements", chain, ok)
	}
}

func TestSignedIsVerified(t *testing.T) { // P5.5
	for _, seed := range append(someDigests(10, 4), api.Digest{}) {
		p := chains.Public(seed)
		for _, m := range someMessages() {
			s := chains.Sign(seed, m)
			if q, e := chains.Recover(m, s); e != api.OK || q != p || !chains.Verify(p, m, s) {
				t.Errorf("%x %x", seed, m)
			}
		}
	}
}

// TestEachHasLess compares messages whose digits differ, also those that only exchange digits, so that their sums are the same.
func TestEachHasLess(t *testing.T) { // P5.5
	messages := append(someMessages(), begins(4, 1), begins(1, 4), begins(64, 0, 0, 128), begins(128, 0, 0, 64))
	s := make([]api.Digest, many)
	for _, a := range messages {
		for _, b := range messages {
			chain, ok := chains.Earlier(a, s, b)
			x, y := chains.Digits(a), chains.Digits(b)
			if ok == slices.Equal(x, y) || ok && y[chain] >= x[chain] {
				t.Errorf("%x %x: %d %v", a[:4], b[:4], chain, ok)
			}
		}
	}
}

// TestOneSignature changes each element of a signature: to those before and after it, to one of another chain, and by one bit. Each of them has another public key.
func TestOneSignature(t *testing.T) { // P5.5
	seed := begins(6)
	p := chains.Public(seed)
	for _, m := range []api.Digest{{}, begins(255, 255, 255, 255), begins(27, 228, 99, 130)} {
		right := chains.Sign(seed, m)
		for chain := range right {
			bit := right[chain]
			bit[chain] ^= 1
			others := []api.Digest{bit, {}, right[(chain+1)%many]}
			for steps := range 6 {
				others = append(others, element(seed, chain, steps))
			}
			for i, x := range others {
				s := slices.Clone(right)
				s[chain] = x
				if chains.Verify(p, m, s) != slices.Equal(s, right) {
					t.Errorf("%x %d %d", m[:4], chain, i)
				}
			}
		}
	}
}

func TestPure(t *testing.T) { // R2
	m, other, seed := begins(27, 228, 0, 1), begins(1), begins(2)
	digits, s := chains.Digits(m), chains.Sign(seed, m)
	wantDigits, want := slices.Clone(digits), slices.Clone(s)
	p, e := chains.Recover(m, s)
	chains.Verify(p, m, s)
	chains.Earlier(m, s, other)
	if e != api.OK || !slices.Equal(s, want) {
		t.Error("the signature has changed", e)
	}
	again, signed := chains.Digits(m), chains.Sign(seed, m)
	clear(digits[:cap(digits)])
	clear(s[:cap(s)])
	if !slices.Equal(again, wantDigits) || !slices.Equal(signed, want) {
		t.Error("results share memory")
	}
	if !slices.Equal(chains.Digits(m), wantDigits) || !slices.Equal(chains.Sign(seed, m), want) {
		t.Error("equal calls return different results")
	}
}

func TestEmptySlices(t *testing.T) { // R3
	for _, s := range [][]api.Digest{nil, {}} {
		if p, e := chains.Recover(begins(1), s); e != api.ErrChains || p != (api.Digest{}) {
			t.Error("Recover", p, e)
		}
		if chains.Verify(api.Digest{}, begins(1), s) {
			t.Error("Verify")
		}
		if chain, ok := chains.Earlier(begins(1), s, api.Digest{}); chain != 0 || ok {
			t.Error("Earlier", chain, ok)
		}
	}
}
