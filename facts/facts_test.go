package facts_test

import (
	"math"
	"math/rand"
	"slices"
	"testing"

	"testamur/api"
	"testamur/facts"
)

var someKey = api.Key{Kind: 5, Subject: 3, Object: 1}

// fact makes a fact of someKey.
func fact(value, from, to, known, no int) api.Fact {
	return api.Fact{Key: someKey, Value: value, Valid: api.Span{From: from, To: to}, Known: known, No: no}
}

// with returns a fact about another key.
func with(k api.Key, f api.Fact) api.Fact {
	f.Key = k
	return f
}

// differ makes an element of Changed, with the ends of its spans.
func differ(k api.Key, ends ...int) api.Differ {
	d := api.Differ{Key: k}
	for pair := range slices.Chunk(ends, 2) {
		d.Days = append(d.Days, api.Span{From: pair[0], To: pair[1]})
	}
	return d
}

// pointsOf makes points of days and values.
func pointsOf(numbers ...int) (p []api.Point) {
	for pair := range slices.Chunk(numbers, 2) {
		p = append(p, api.Point{Day: pair[0], Value: pair[1]})
	}
	return p
}

func sameDiffers(a, b []api.Differ) bool {
	return slices.EqualFunc(a, b, func(x, y api.Differ) bool { return x.Key == y.Key && slices.Equal(x.Days, y.Days) })
}

// someKeys are keys that differ in one of their numbers only, in increasing order; the last ones are not valid.
func someKeys() []api.Key {
	return []api.Key{{Kind: math.MinInt}, {Kind: -1, Subject: 9}, {}, {Object: 1}, {Subject: 1}, {Kind: 1}, {Kind: 1, Object: 1}, {Kind: 1, Subject: 1}, {Kind: 15, Subject: 4095, Object: 1023}, {Kind: math.MaxInt}}
}

// someNumbers are numbers at and around the ends of the calendar, inside it and far from it.
func someNumbers() []int {
	return []int{math.MinInt, math.MinInt + 1, -1024, -1, 0, 1, 2, 3, 4, 5, 500, 1022, 1023, 1024, 1025, 1 << 32, math.MaxInt - 1, math.MaxInt}
}

func pick[T any](r *rand.Rand, l []T) T { return l[r.Intn(len(l))] }

// anyList makes a list at random that need not be valid or in order: its facts are about few keys, at few times, so that many of them are equal in the order and about the same days.
func anyList(r *rand.Rand, many int) (l []api.Fact) {
	values := []int{math.MinInt, -2, -1, -1, 0, 0, 1, 1, 7, 7, 1 << 20, math.MaxInt}
	times := []int{math.MinInt, -1, 0, 1, 2, 2, 3, 3, 4, 1 << 24, math.MaxInt}
	for range many {
		f := api.Fact{Key: pick(r, someKeys()), Value: pick(r, values), Known: pick(r, times), No: r.Intn(3) - 1}
		if r.Intn(2) == 0 {
			f.Valid = api.Span{From: r.Intn(8), To: r.Intn(12)}
		} else {
			f.Valid = api.Span{From: pick(r, someNumbers()), To: pick(r, someNumbers())}
		}
		l = append(l, f)
	}
	return l
}

// rightList makes a list at random that Check accepts.
func rightList(r *rand.Rand, many int) (l []api.Fact) {
	keys := someKeys()[2:9]
	known, no := 1, 0
	for range many {
		if r.Intn(2) == 0 {
			known, no = known+1+r.Intn(2), 0
		}
		from := r.Intn(1024)
		to := from + 1 + r.Intn(1024-from)
		if r.Intn(2) == 0 {
			from, to = r.Intn(6), 6+r.Intn(6)
		}
		l = append(l, api.Fact{Key: pick(r, keys), Value: r.Intn(4) - 1, Valid: api.Span{From: from, To: to}, Known: known, No: no})
		no += 1 + r.Intn(2)
	}
	return l
}

// someLists are right lists and any lists, always the same ones.
func someLists(seed int64, many int) (all [][]api.Fact) {
	r := rand.New(rand.NewSource(seed))
	for i := range many {
		if i%2 == 0 {
			all = append(all, rightList(r, r.Intn(14)))
		} else {
			all = append(all, anyList(r, r.Intn(30)))
		}
	}
	return all
}

// at says by the words of the chapter what value a key has on a day: it looks for the fact that no other fact is after.
func at(l []api.Fact, k api.Key, day, known int) (value int, ok bool) {
	about := func(f api.Fact) bool {
		return f.Key == k && f.Valid.From <= day && day < f.Valid.To && f.Known <= known
	}
	for i, f := range l {
		counts := about(f)
		for j, g := range l {
			if about(g) && (g.Known > f.Known || g.Known == f.Known && (g.No > f.No || g.No == f.No && j > i)) {
				counts = false
			}
		}
		if counts && f.Value >= 0 {
			return f.Value, true
		}
	}
	return 0, false
}

func points(l []api.Fact, k api.Key, from, to, known int) (p []api.Point) {
	for day := range 1024 {
		if from <= day && day < to {
			if value, ok := at(l, k, day, known); ok {
				p = append(p, api.Point{Day: day, Value: value})
			}
		}
	}
	return p
}

// differs says whether a key differs on a day.
func differs(l []api.Fact, k api.Key, day, before, after int) bool {
	x, inX := at(l, k, day, before)
	y, inY := at(l, k, day, after)
	return inX != inY || inX && x != y
}

func changed(l []api.Fact, before, after int) (c []api.Differ) {
	for _, k := range someKeys() {
		d := api.Differ{Key: k}
		for day := range 1024 {
			if !differs(l, k, day, before, after) {
				continue
			}
			if last := len(d.Days) - 1; last >= 0 && d.Days[last].To == day {
				d.Days[last].To++
			} else {
				d.Days = append(d.Days, api.Span{From: day, To: day + 1})
			}
		}
		if len(d.Days) > 0 {
			c = append(c, d)
		}
	}
	return c
}

func alike(l []api.Fact, reads []api.Read, before, after int) bool {
	for _, r := range reads {
		if !slices.Equal(points(l, r.Key, r.From, r.To, before), points(l, r.Key, r.From, r.To, after)) {
			return false
		}
	}
	return true
}

// changes are what makes a fact that is valid in every number one that is not, and the other way round: the least and the greatest number of each field, and their neighbours.
func changes() (all []func(f *api.Fact) (right bool)) {
	add := func(field func(f *api.Fact) *int, least, greatest int) {
		for _, n := range []int{math.MinInt, least - 1, least, least + 1, greatest - 1, greatest, greatest + 1, math.MaxInt} {
			all = append(all, func(f *api.Fact) bool {
				*field(f) = n
				return least <= n && n <= greatest
			})
		}
	}
	add(func(f *api.Fact) *int { return &f.Key.Kind }, 0, 15)
	add(func(f *api.Fact) *int { return &f.Key.Subject }, 0, 4095)
	add(func(f *api.Fact) *int { return &f.Key.Object }, 0, 1023)
	add(func(f *api.Fact) *int { return &f.Value }, -1, 1<<20)
	add(func(f *api.Fact) *int { return &f.Known }, 1, 1<<24)
	add(func(f *api.Fact) *int { return &f.No }, 0, 65535)
	for _, from := range someNumbers() {
		for _, to := range someNumbers() {
			all = append(all, func(f *api.Fact) bool {
				f.Valid = api.Span{From: from, To: to}
				return 0 <= from && from < to && to <= 1024
			})
		}
	}
	return all
}

func TestValid(t *testing.T) { // P4.1
	for i, change := range changes() {
		for _, known := range []int{1, 20} {
			f := fact(7, 5, 6, known, 3)
			want := api.ErrFact
			if change(&f) {
				want = api.OK
			}
			if e := facts.Check([]api.Fact{f}); e != want {
				t.Error(i, f, e)
			}
			x, e := facts.Add(nil, f)
			if e != want || (e == api.OK) != slices.Equal(x, []api.Fact{f}) || e != api.OK && len(x) != 0 {
				t.Error(i, f, x, e)
			}
		}
	}
}

func TestCheckExamples(t *testing.T) { // P4.1
	wrong := fact(1, 9, 9, 5, 0)
	for i, x := range []struct {
		l    []api.Fact
		want api.Errno
	}{
		{nil, api.OK},
		{[]api.Fact{{}}, api.ErrFact},
		{[]api.Fact{fact(1, 0, 9, 5, 0), fact(2, 0, 9, 5, 1)}, api.OK},
		{[]api.Fact{fact(1, 0, 9, 5, 0), fact(2, 0, 9, 5, 0)}, api.ErrOrder},
		{[]api.Fact{fact(1, 0, 9, 5, 0), fact(1, 0, 9, 5, 0)}, api.ErrOrder},
		{[]api.Fact{fact(1, 0, 9, 5, 1), fact(2, 0, 9, 5, 0)}, api.ErrOrder},
		{[]api.Fact{fact(1, 0, 9, 5, 1), fact(2, 0, 9, 6, 0)}, api.OK},
		{[]api.Fact{fact(1, 0, 9, 6, 0), fact(2, 0, 9, 5, 1)}, api.ErrOrder},
		{[]api.Fact{fact(1, 0, 9, 5, 0), with(api.Key{}, fact(1, 0, 9, 5, 0))}, api.ErrOrder},
		{[]api.Fact{fact(1, 0, 1, 5, 0), fact(1, 7, 8, 5, 0)}, api.ErrOrder},
		{[]api.Fact{fact(1, 0, 9, 1, 0), fact(2, 0, 9, 1, 65535), fact(3, 0, 9, 1<<24, 0)}, api.OK},
		{[]api.Fact{fact(1, 0, 9, 1, 0), fact(2, 0, 9, 3, 0), fact(3, 0, 9, 2, 0)}, api.ErrOrder},
		{[]api.Fact{fact(1, 0, 9, 2, 0), fact(2, 0, 9, 1, 0), wrong}, api.ErrFact},
		{[]api.Fact{wrong, fact(1, 0, 9, 2, 0), fact(2, 0, 9, 1, 0)}, api.ErrFact},
		{[]api.Fact{fact(1, 0, 9, 2, 0), wrong, fact(2, 0, 9, 8, 0)}, api.ErrFact},
	} {
		if e := facts.Check(x.l); e != x.want {
			t.Error(i, e)
		}
	}
}

// TestCheckAnywhere puts what is wrong at each place of a list that is right otherwise.
func TestCheckAnywhere(t *testing.T) { // P4.1
	var right []api.Fact
	for i := range 9 {
		right = append(right, fact(i, i, i+1, 1+i/3, 2*(i%3)))
	}
	if e := facts.Check(right); e != api.OK {
		t.Error(e)
	}
	for i, f := range right {
		l := slices.Clone(right)
		l[i].Value = -2
		if e := facts.Check(l); e != api.ErrFact {
			t.Error(i, e)
		}
		if e := facts.Check(slices.Insert(slices.Clone(right), i, f)); e != api.ErrOrder {
			t.Error(i, e)
		}
		if e := facts.Check(append(slices.Clone(right[i:]), right[:i]...)); (e == api.OK) != (i == 0) {
			t.Error(i, e)
		}
	}
}

func TestAddExamples(t *testing.T) { // P4.1
	l := []api.Fact{fact(1, 5, 6, 3, 9), fact(1, 5, 6, 7, 3)}
	unordered := []api.Fact{fact(1, 5, 6, 7, 3), fact(1, 5, 6, 3, 9)}
	invalid := []api.Fact{fact(1, 5, 6, 7, 3), {}}
	for i, x := range []struct {
		l    []api.Fact
		f    api.Fact
		want api.Errno
	}{
		{nil, fact(2, 5, 6, 1, 0), api.OK},
		{l, fact(2, 5, 6, 7, 4), api.OK},
		{l, fact(2, 5, 6, 7, 65535), api.OK},
		{l, fact(2, 5, 6, 8, 0), api.OK},
		{l, fact(-1, 5, 6, 1<<24, 0), api.OK},
		{l, with(api.Key{Kind: 1}, fact(2, 5, 6, 7, 4)), api.OK},
		{l, fact(2, 5, 6, 7, 3), api.ErrOrder},
		{l, l[1], api.ErrOrder},
		{l, fact(2, 5, 6, 7, 2), api.ErrOrder},
		{l, fact(2, 5, 6, 6, 4), api.ErrOrder},
		{l, with(api.Key{Kind: 1}, fact(2, 500, 600, 6, 4)), api.ErrOrder},
		{l, fact(2, 5, 6, 7, 65536), api.ErrFact},
		{l, fact(-2, 5, 6, 2, 0), api.ErrFact},
		{l, api.Fact{}, api.ErrFact},
		{nil, api.Fact{}, api.ErrFact},
		{unordered, fact(2, 5, 6, 9, 0), api.ErrOrder},
		{unordered, api.Fact{}, api.ErrOrder},
		{invalid, fact(2, 5, 6, 9, 0), api.ErrFact},
		{invalid, fact(2, 5, 6, 1, 0), api.ErrFact},
	} {
		y, e := facts.Add(x.l, x.f)
		if e != x.want {
			t.Error(i, e)
		}
		var want []api.Fact
		if x.want == api.OK {
			want = append(slices.Clone(x.l), x.f)
		}
		if !slices.Equal(y, want) {
			t.Error(i, y)
		}
	}
}

// TestAddPrefixes adds to each beginning of lists: Add accepts exactly what Check accepts afterwards.
func TestAddPrefixes(t *testing.T) { // P4.1
	for _, l := range someLists(1, 400) {
		for n, f := range l {
			x, e := facts.Add(l[:n], f)
			if e != facts.Check(l[:n+1]) && facts.Check(l[:n]) == api.OK || (e == api.OK) != (facts.Check(l[:n+1]) == api.OK) {
				t.Error(l[:n+1], e)
			}
			if e == api.OK && !slices.Equal(x, l[:n+1]) || e != api.OK && len(x) != 0 {
				t.Error(l[:n+1], x)
			}
		}
	}
}

func TestAtExamples(t *testing.T) { // P4.2
	l := []api.Fact{fact(7, 2, 6, 10, 0), fact(-1, 3, 4, 20, 0), fact(0, 4, 5, 30, 1), fact(9, 4, 5, 30, 0), fact(5, 5, 6, 30, 0), fact(6, 5, 6, 30, 0)}
	for i, x := range []struct {
		day, known, value int
		ok                bool
	}{
		{1, 99, 0, false}, {2, 9, 0, false}, {2, 10, 7, true}, {2, 11, 7, true}, {2, 99, 7, true},
		{3, 15, 7, true}, {3, 19, 7, true}, {3, 20, 0, false}, {3, math.MaxInt, 0, false}, {3, 0, 0, false}, {3, -1, 0, false}, {3, math.MinInt, 0, false},
		{4, 29, 7, true}, {4, 30, 0, true}, // by the greater No, which is earlier in the list
		{5, 29, 7, true}, {5, 30, 6, true}, // by the place in the list
		{6, 99, 0, false}, {-1, 99, 0, false}, {1024, 99, 0, false}, {math.MinInt, 99, 0, false}, {math.MaxInt, 99, 0, false},
	} {
		if value, ok := facts.At(l, someKey, x.day, x.known); value != x.value || ok != x.ok {
			t.Error(i, value, ok)
		}
	}
	for _, k := range someKeys() {
		if value, ok := facts.At(l, k, 2, 99); value != 0 || ok {
			t.Error(k, value, ok)
		}
		if value, ok := facts.At(nil, k, 0, 0); value != 0 || ok {
			t.Error(k, value, ok)
		}
		if value, ok := facts.At(append(slices.Clone(l), with(k, fact(8, 2, 3, 99, 0))), someKey, 2, 99); value != 7 || !ok {
			t.Error(k, value, ok)
		}
	}
}

// TestAtOrder has two facts with all relations of their numbers, at both places of a list.
func TestAtOrder(t *testing.T) { // P4.2
	numbers := []int{math.MinInt, -1, 0, 1, 2, math.MaxInt}
	for _, known := range numbers {
		for _, no := range numbers {
			for _, otherKnown := range numbers {
				for _, otherNo := range numbers {
					l := []api.Fact{fact(1, 5, 6, known, no), fact(2, 5, 6, otherKnown, otherNo)}
					want := 2
					if known > otherKnown || known == otherKnown && no > otherNo {
						want = 1
					}
					if value, ok := facts.At(l, someKey, 5, math.MaxInt); value != want || !ok {
						t.Error(l, value, ok)
					}
					if p := facts.Points(l, someKey, 5, 6, math.MaxInt); !slices.Equal(p, pointsOf(5, want)) {
						t.Error(l, p)
					}
				}
			}
		}
	}
}

// TestNoValue has values that say that there is none, and the least and the greatest that do not.
func TestNoValue(t *testing.T) { // P4.2
	for _, value := range []int{math.MinInt, -1 << 32, -2, -1, 0, 1, 1 << 20, 1<<20 + 1, math.MaxInt} {
		l := []api.Fact{fact(3, 2, 6, 1, 0), fact(value, 4, 5, 2, 0)}
		got, ok := facts.At(l, someKey, 4, 2)
		p := facts.Points(l, someKey, 4, 5, 2)
		if value < 0 && (got != 0 || ok || len(p) != 0) {
			t.Error(value, got, ok, p)
		}
		if value >= 0 && (got != value || !ok || !slices.Equal(p, pointsOf(4, value))) {
			t.Error(value, got, ok, p)
		}
	}
}

func TestAtReference(t *testing.T) { // P4.2
	for _, l := range someLists(2, 300) {
		for _, k := range someKeys() {
			for _, day := range append(someNumbers(), 6, 7, 8, 9, 10, 11, 12) {
				for _, known := range []int{math.MinInt, -1, 0, 1, 2, 3, 4, 5, 8, 1 << 24, math.MaxInt} {
					value, ok := facts.At(l, k, day, known)
					if wantValue, wantOk := at(l, k, day, known); value != wantValue || ok != wantOk {
						t.Error(l, k, day, known, value, ok)
					}
				}
			}
		}
	}
}

func TestPointsExamples(t *testing.T) { // P4.2
	l := []api.Fact{fact(7, 2, 6, 10, 0), fact(-1, 3, 4, 20, 0), fact(8, 1023, 1024, 20, 1), fact(5, 0, 1, 20, 2)}
	for i, x := range []struct {
		from, to, known int
		want            []api.Point
	}{
		{0, 1024, 9, nil},
		{0, 1024, 10, pointsOf(2, 7, 3, 7, 4, 7, 5, 7)},
		{0, 1024, 20, pointsOf(0, 5, 2, 7, 4, 7, 5, 7, 1023, 8)},
		{math.MinInt, math.MaxInt, math.MaxInt, pointsOf(0, 5, 2, 7, 4, 7, 5, 7, 1023, 8)},
		{math.MinInt, math.MaxInt, math.MinInt, nil},
		{3, 5, 15, pointsOf(3, 7, 4, 7)},
		{3, 5, 20, pointsOf(4, 7)},
		{3, 4, 20, nil},
		{-1, 1, 20, pointsOf(0, 5)},
		{0, 1, 20, pointsOf(0, 5)},
		{1, 2, 20, nil},
		{1023, 1024, 20, pointsOf(1023, 8)},
		{1022, 5000, 20, pointsOf(1023, 8)},
		{1024, 5000, 20, nil},
		{math.MinInt, 0, 20, nil},
		{5, 5, 20, nil},
		{6, 5, 20, nil},
		{5000, 4000, 20, nil},
		{math.MaxInt, math.MinInt, 20, nil},
	} {
		if p := facts.Points(l, someKey, x.from, x.to, x.known); !slices.Equal(p, x.want) {
			t.Error(i, p)
		}
		if p := facts.Points(l, api.Key{Kind: 5, Subject: 3}, x.from, x.to, x.known); len(p) != 0 {
			t.Error(i, p)
		}
	}
}

func TestPointsReference(t *testing.T) { // P4.2
	r := rand.New(rand.NewSource(30))
	for _, l := range someLists(3, 200) {
		for _, k := range someKeys() {
			from, to, known := pick(r, someNumbers()), pick(r, someNumbers()), r.Intn(9)-1
			if p := facts.Points(l, k, from, to, known); !slices.Equal(p, points(l, k, from, to, known)) {
				t.Error(l, k, from, to, known, p)
			}
			if p := facts.Points(l, k, 0, 1024, math.MaxInt); !slices.Equal(p, points(l, k, 0, 1024, math.MaxInt)) {
				t.Error(l, k, p)
			}
		}
	}
}

// TestPointsDense has a fact for each day, in several orders of the list, over facts that are longer and earlier.
func TestPointsDense(t *testing.T) { // P4.2
	var l []api.Fact
	var want []api.Point
	for day := range 1024 {
		l = append(l, fact(day*3%1000, day, day+1, 5, day))
		want = append(want, api.Point{Day: day, Value: day * 3 % 1000})
	}
	l = append(l, fact(99, 0, 1024, 4, 0), fact(98, 0, 1024, 3, 9), fact(97, 1000, 1024, 6, 0), fact(-1, 0, 3, 6, 1))
	for i := range want[1000:] {
		want[1000+i].Value = 97
	}
	want = want[3:]
	r := rand.New(rand.NewSource(31))
	for range 5 {
		if p := facts.Points(l, someKey, 0, 1024, 6); !slices.Equal(p, want) {
			t.Error(p)
		}
		if p := facts.Points(l, someKey, 500, 1002, 6); !slices.Equal(p, want[497:999]) {
			t.Error(p)
		}
		r.Shuffle(len(l), func(i, j int) { l[i], l[j] = l[j], l[i] })
	}
}

func TestChangedExamples(t *testing.T) { // P4.3
	low := api.Key{Kind: 3, Subject: 4095, Object: 1023}
	l := []api.Fact{
		fact(7, 2, 6, 10, 0), fact(-1, 3, 4, 20, 0), fact(7, 3, 4, 30, 0), fact(7, 2, 9, 40, 0), fact(8, 5, 7, 50, 0),
		with(low, fact(1, 0, 1, 60, 0)), with(low, fact(1, 1023, 1024, 60, 1)), fact(-1, 0, 1024, 70, 0), fact(-1, 100, 200, 80, 0),
	}
	for i, x := range []struct {
		before, after int
		want          []api.Differ
	}{
		{15, 20, []api.Differ{differ(someKey, 3, 4)}},
		{20, 29, nil},
		{10, 30, nil}, // the value is back
		{20, 30, []api.Differ{differ(someKey, 3, 4)}},
		{0, 10, []api.Differ{differ(someKey, 2, 6)}},
		{0, 20, []api.Differ{differ(someKey, 2, 3, 4, 6)}},
		{10, 40, []api.Differ{differ(someKey, 6, 9)}},
		{20, 40, []api.Differ{differ(someKey, 3, 4, 6, 9)}},
		{30, 50, []api.Differ{differ(someKey, 5, 9)}}, // another value, then none before
		{40, 50, []api.Differ{differ(someKey, 5, 7)}},
		{50, 60, []api.Differ{differ(low, 0, 1, 1023, 1024)}},
		{40, 60, []api.Differ{differ(low, 0, 1, 1023, 1024), differ(someKey, 5, 7)}},
		{50, 70, []api.Differ{differ(low, 0, 1, 1023, 1024), differ(someKey, 2, 9)}},
		{9, 70, []api.Differ{differ(low, 0, 1, 1023, 1024)}},
		{70, 80, nil}, // none instead of none
		{9, 9, nil}, {50, 50, nil}, {-7, 9, nil},
		{math.MinInt, 10, []api.Differ{differ(someKey, 2, 6)}},
		{60, math.MaxInt, []api.Differ{differ(someKey, 2, 9)}},
		{math.MinInt, math.MaxInt, []api.Differ{differ(low, 0, 1, 1023, 1024)}},
	} {
		if c := facts.Changed(l, x.before, x.after); !sameDiffers(c, x.want) {
			t.Error(i, c)
		}
		if c := facts.Changed(l, x.after, x.before); !sameDiffers(c, x.want) {
			t.Error(i, "back", c)
		}
	}
	if c := facts.Changed(nil, 0, math.MaxInt); len(c) != 0 {
		t.Error(c)
	}
}

// TestChangedKeys has a fact for each key, in the opposite order, and with days outside the calendar.
func TestChangedKeys(t *testing.T) { // P4.3
	var l []api.Fact
	var want []api.Differ
	for i, k := range someKeys() {
		l = append(l, with(k, fact(i, -3, 5, i, 0)), with(k, fact(i, 1000, 1<<40, i, 0)), with(k, fact(i, -9, -1, i, 0)), with(k, fact(i, 1024, 9999, i, 0)))
		want = append(want, differ(k, 0, 5, 1000, 1024))
	}
	slices.Reverse(l)
	if c := facts.Changed(l, -1, 99); !sameDiffers(c, want) {
		t.Error(c)
	}
	if c := facts.Changed(l, 2, 5); !sameDiffers(c, want[3:6]) {
		t.Error(c)
	}
}

// TestChangedMany has as many spans for a key as there can be.
func TestChangedMany(t *testing.T) { // P4.3
	for first := range 2 {
		l := []api.Fact{fact(1, 0, 1024, 1, 0)}
		want := api.Differ{Key: someKey}
		for day := first; day < 1024; day += 2 {
			l = append(l, fact(2-3*(day/2%2), day, day+1, 2, day))
			want.Days = append(want.Days, api.Span{From: day, To: day + 1})
		}
		if c := facts.Changed(l, 1, 2); !sameDiffers(c, []api.Differ{want}) {
			t.Error(first, c)
		}
	}
}

func TestChangedReference(t *testing.T) { // P4.3
	times := []int{math.MinInt, -1, 0, 1, 2, 3, 4, 6, 9, 1 << 24, math.MaxInt}
	r := rand.New(rand.NewSource(40))
	for _, l := range someLists(4, 120) {
		for range 2 {
			before, after := pick(r, times), pick(r, times)
			if c := facts.Changed(l, before, after); !sameDiffers(c, changed(l, before, after)) {
				t.Error(l, before, after, c)
			}
		}
	}
}

func TestAlikeExamples(t *testing.T) { // P4.3
	other := api.Key{Kind: 5, Subject: 3, Object: 2}
	l := []api.Fact{fact(7, 2, 6, 10, 0), with(other, fact(1, 0, 5, 10, 1)), fact(-1, 3, 4, 20, 0), fact(9, 5, 6, 20, 1), fact(7, 3, 4, 30, 0), fact(7, 5, 6, 30, 1), fact(1, -9, 0, 40, 0), fact(1, 1024, 2000, 40, 1)}
	read := func(k api.Key, from, to int) api.Read { return api.Read{Key: k, From: from, To: to} }
	for i, x := range []struct {
		reads         []api.Read
		before, after int
		want          bool
	}{
		{nil, 1, 2, true},
		{nil, 10, 20, true},
		{[]api.Read{read(someKey, 3, 4)}, 10, 20, false},
		{[]api.Read{read(someKey, 4, 5)}, 10, 20, true},
		{[]api.Read{read(someKey, 2, 3)}, 10, 20, true},
		{[]api.Read{read(someKey, 2, 4)}, 10, 20, false},
		{[]api.Read{read(someKey, 4, 6)}, 10, 20, false},
		{[]api.Read{read(someKey, 6, 1024)}, 10, 20, true},
		{[]api.Read{read(someKey, math.MinInt, 3)}, 10, 20, true},
		{[]api.Read{read(someKey, math.MinInt, 4)}, 10, 20, false},
		{[]api.Read{read(someKey, math.MinInt, math.MaxInt)}, 10, 20, false},
		{[]api.Read{read(someKey, 5, math.MaxInt)}, 10, 20, false},
		{[]api.Read{read(someKey, 6, math.MaxInt)}, 10, 20, true},
		{[]api.Read{read(someKey, 0, 1024)}, 10, 30, true}, // the values are back
		{[]api.Read{read(someKey, 0, 1024)}, 11, 19, true},
		{[]api.Read{read(someKey, 3, 3), read(someKey, 4, 3), read(someKey, math.MaxInt, math.MinInt), read(someKey, 9, 0)}, 10, 20, true},
		{[]api.Read{read(other, 0, 1024)}, 10, 20, true},
		{[]api.Read{read(other, 0, 1)}, 9, 20, false},
		{[]api.Read{read(api.Key{}, 0, 1024)}, 0, 99, true},
		{[]api.Read{read(other, 0, 1024), read(someKey, 4, 5), read(someKey, 3, 4)}, 10, 20, false},
		{[]api.Read{read(someKey, 3, 4), read(other, 0, 1024), read(someKey, 4, 5)}, 10, 20, false},
		{[]api.Read{read(someKey, 4, 5), read(other, 0, 1024), read(someKey, 0, 3)}, 10, 20, true},
		{[]api.Read{read(someKey, -20, 2000)}, 30, 40, true}, // days outside the calendar
	} {
		if ok := facts.Alike(l, x.reads, x.before, x.after); ok != x.want {
			t.Error(i, ok)
		}
		if ok := facts.Alike(l, x.reads, x.after, x.before); ok != x.want {
			t.Error(i, "back", ok)
		}
	}
}

func TestAlikeReference(t *testing.T) { // P4.3
	times := []int{math.MinInt, -1, 0, 1, 2, 3, 4, 6, 9, 1 << 24, math.MaxInt}
	r := rand.New(rand.NewSource(50))
	for _, l := range someLists(5, 600) {
		var reads []api.Read
		for range r.Intn(4) {
			from := pick(r, someNumbers())
			to := pick(r, someNumbers())
			if r.Intn(2) == 0 {
				from = r.Intn(14)
				to = from + r.Intn(3)
			}
			reads = append(reads, api.Read{Key: pick(r, someKeys()), From: from, To: to})
		}
		before, after := pick(r, times), pick(r, times)
		if ok := facts.Alike(l, reads, before, after); ok != alike(l, reads, before, after) {
			t.Error(l, reads, before, after, ok)
		}
	}
}

func TestUpto(t *testing.T) { // P4.3
	l := []api.Fact{fact(1, 0, 9, 20, 5), {}, fact(2, 9, 9, 10, 0), fact(3, 0, 9, 20, 5), fact(-9, 0, 9, math.MinInt, 0), fact(5, 0, 9, math.MaxInt, 0)}
	for i, x := range []struct {
		known int
		want  []api.Fact
	}{
		{math.MinInt, []api.Fact{l[4]}},
		{-1, []api.Fact{l[4]}},
		{0, []api.Fact{l[1], l[4]}},
		{9, []api.Fact{l[1], l[4]}},
		{10, []api.Fact{l[1], l[2], l[4]}},
		{19, []api.Fact{l[1], l[2], l[4]}},
		{20, []api.Fact{l[0], l[1], l[2], l[3], l[4]}},
		{math.MaxInt - 1, []api.Fact{l[0], l[1], l[2], l[3], l[4]}},
		{math.MaxInt, l},
	} {
		if y := facts.Upto(l, x.known); !slices.Equal(y, x.want) {
			t.Error(i, y)
		}
	}
	if y := facts.Upto(nil, 5); len(y) != 0 {
		t.Error(y)
	}
}

// TestPast adds facts one by one: what was known before stays as it was.
func TestPast(t *testing.T) { // P4.4
	r := rand.New(rand.NewSource(60))
	for range 60 {
		all := rightList(r, 8)
		for n := range all {
			l, e := facts.Add(all[:n], all[n])
			if e != api.OK {
				t.Fatal(e)
			}
			for known := range all[n].Known {
				for _, k := range someKeys() {
					if !slices.Equal(facts.Points(l, k, 0, 1024, known), facts.Points(all[:n], k, 0, 1024, known)) {
						t.Error(l, k, known)
					}
				}
				if !sameDiffers(facts.Changed(l, 0, known), facts.Changed(all[:n], 0, known)) {
					t.Error(l, known)
				}
			}
		}
	}
}

func TestUptoKnows(t *testing.T) { // P4.4
	for _, l := range someLists(7, 120) {
		for _, known := range []int{-1, 0, 1, 2, 3, 4, 8} {
			upto := facts.Upto(l, known)
			for _, later := range []int{known, known + 1, 1 << 24, math.MaxInt} {
				for _, k := range someKeys() {
					if !slices.Equal(facts.Points(upto, k, 0, 1024, later), facts.Points(l, k, 0, 1024, known)) {
						t.Error(l, k, known, later)
					}
					for _, day := range someNumbers() {
						x, inX := facts.At(upto, k, day, later)
						if y, inY := facts.At(l, k, day, known); x != y || inX != inY {
							t.Error(l, k, day, known, later)
						}
					}
				}
			}
		}
	}
}

func TestPointsAgree(t *testing.T) { // P4.4
	for _, l := range someLists(8, 120) {
		for _, k := range someKeys() {
			for _, known := range []int{0, 2, 3, math.MaxInt} {
				var want []api.Point
				for day := range 1024 {
					value, ok := facts.At(l, k, day, known)
					if ok {
						want = append(want, api.Point{Day: day, Value: value})
					}
					if p := facts.Points(l, k, day, day+1, known); day < 20 && (len(p) == 1) != ok {
						t.Error(l, k, day, known, p)
					}
				}
				if p := facts.Points(l, k, 0, 1024, known); !slices.Equal(p, want) {
					t.Error(l, k, known, p)
				}
			}
		}
	}
}

// TestReadsOfChanged asks day by day, and for spans that begin and end around those of Changed.
func TestReadsOfChanged(t *testing.T) { // P4.4
	for _, l := range someLists(9, 30) {
		for _, times := range [][2]int{{0, 3}, {2, 1 << 24}, {4, 1}} {
			days := map[api.Key][]api.Span{}
			for _, d := range facts.Changed(l, times[0], times[1]) {
				days[d.Key] = d.Days
			}
			for _, k := range someKeys() {
				for _, from := range []int{math.MinInt, -1, 0, 1, 3, 4, 6, 9, 11, 1022, 1023, 1024, math.MaxInt} {
					for _, to := range []int{math.MinInt, -1, 0, 1, 4, 5, 7, 9, 12, 1023, 1024, 1025, math.MaxInt} {
						in := slices.ContainsFunc(days[k], func(s api.Span) bool { return max(s.From, from) < min(s.To, to) })
						if facts.Alike(l, []api.Read{{Key: k, From: from, To: to}}, times[0], times[1]) == in {
							t.Error(l, k, from, to, times)
						}
					}
				}
			}
		}
	}
}

// TestLongLists has so many facts that nobody can look at the days of each, or at all facts for each key or read.
func TestLongLists(t *testing.T) { // R1, R7
	var l []api.Fact
	for i := range 1 << 19 {
		l = append(l, fact(i&7, i&15, 1024-i&31, 1+i>>14, i&0x3fff))
	}
	if e := facts.Check(l); e != api.OK {
		t.Error(e)
	}
	if p := facts.Points(l, someKey, 0, 1024, 1<<24); len(p) != 1024 {
		t.Error(len(p))
	}
	if c := facts.Changed(l, 1, 2); len(c) != 0 {
		t.Error(c)
	}
	for i := range l {
		l[i].Key = api.Key{Kind: i & 15, Subject: i >> 4 & 1023}
	}
	c := facts.Changed(l, 0, 1)
	if len(c) != 1<<14 {
		t.Error(len(c))
	}
	var reads []api.Read
	for i := range 1 << 19 {
		reads = append(reads, api.Read{Key: l[i].Key, From: 1023, To: 1 << 40})
	}
	if facts.Alike(l, reads, 0, 1) || !facts.Alike(l, reads, 1, 1) || !facts.Alike(l, reads, 5, 32) {
		t.Error("alike")
	}
}

// TestPure looks at whole arrays behind the arguments, and changes results, which must not show anywhere else.
func TestPure(t *testing.T) { // R2, R6
	array := []api.Fact{fact(1, 2, 9, 5, 1), fact(7, 2, 6, 10, 0), fact(8, 4, 9, 15, 0), fact(-1, 3, 5, 20, 0), with(api.Key{}, fact(9, 3, 4, 20, 1)), fact(3, 0, 9, 30, 1), fact(4, 0, 9, 30, 2)}
	before := slices.Clone(array)
	l := array[1:5]
	mixed := slices.Clone(array)
	slices.Reverse(mixed)
	mixedBefore := slices.Clone(mixed)
	reads := []api.Read{{Key: someKey, From: 3, To: 9}, {From: 0, To: 1024}}
	readsBefore := slices.Clone(reads)
	call := func() ([]api.Fact, []api.Fact, []api.Point, []api.Differ) {
		x, e := facts.Add(l, fact(6, 1, 2, 40, 0))
		if e != api.OK || facts.Check(mixed) != api.ErrOrder || facts.Alike(mixed, reads, 10, 20) {
			t.Error(e)
		}
		if value, ok := facts.At(mixed, someKey, 3, 10); value != 7 || !ok {
			t.Error(value, ok)
		}
		return x, facts.Upto(mixed, 20), facts.Points(mixed, someKey, 0, 99, 20), facts.Changed(mixed, 10, 30)
	}
	x, u, p, c := call()
	wantX, wantU, wantP, wantLen := slices.Clone(x), slices.Clone(u), slices.Clone(p), len(c)
	y, v, q, d := call()
	_ = append(x, api.Fact{})
	clear(x[:cap(x)])
	clear(u[:cap(u)])
	clear(p)
	for i := range c {
		clear(c[i].Days[:cap(c[i].Days)])
	}
	clear(c)
	z, w, r, f := call()
	if !slices.Equal(y, wantX) || !slices.Equal(z, wantX) || !slices.Equal(v, wantU) || !slices.Equal(w, wantU) || !slices.Equal(q, wantP) || !slices.Equal(r, wantP) {
		t.Error(y, z, v, w, q, r)
	}
	if len(d) != wantLen || wantLen != 2 || !sameDiffers(d, f) {
		t.Error(d, f)
	}
	if !slices.Equal(array, before) || !slices.Equal(mixed, mixedBefore) || !slices.Equal(reads, readsBefore) {
		t.Error(array, mixed, reads)
	}
}

func TestEmptySlices(t *testing.T) { // R3
	f := fact(1, 2, 3, 4, 5)
	for i, l := range [][]api.Fact{nil, {}} {
		x, e := facts.Add(l, f)
		if facts.Check(l) != api.OK || e != api.OK || !slices.Equal(x, []api.Fact{f}) {
			t.Error(i, "check and add")
		}
		if len(facts.Points(l, someKey, 0, 1024, 9)) != 0 || len(facts.Changed(l, 1, 9)) != 0 || len(facts.Upto(l, 9)) != 0 {
			t.Error(i, "points, changed and upto")
		}
		if !facts.Alike(l, []api.Read{{Key: someKey, From: 0, To: 1024}}, 1, 9) || !facts.Alike([]api.Fact{f}, nil, 1, 9) || !facts.Alike([]api.Fact{f}, []api.Read{}, 1, 9) {
			t.Error(i, "alike")
		}
	}
}
