package spans_test

import (
	"math"
	"math/rand"
	"slices"
	"testing"

	"testamur/api"
	"testamur/spans"
)

// list makes spans of their ends.
func list(ends ...int) (l []api.Span) {
	for pair := range slices.Chunk(ends, 2) {
		l = append(l, api.Span{From: pair[0], To: pair[1]})
	}
	return l
}

// someEnds are numbers at and around the ends of the calendar, inside it and far from it.
func someEnds() []int {
	return []int{math.MinInt, math.MinInt + 1, -1 << 32, -1025, -1024, -1, 0, 1, 2, 10, 20, 511, 512, 513, 1022, 1023, 1024, 1025, 1026, 2048, 1 << 32, math.MaxInt - 1, math.MaxInt}
}

// someSpans are the spans between all ends, in both directions, also the empty ones.
func someSpans() (l []api.Span) {
	for _, from := range someEnds() {
		for _, to := range someEnds() {
			l = append(l, api.Span{From: from, To: to})
		}
	}
	return l
}

// someLists are lists that are made at random, always the same ones: in every third list all spans lie in the calendar, in another third their ends are few, so that spans meet and overlap, and the others have any ends.
func someLists(seed int64, many int) (all [][]api.Span) {
	random := rand.New(rand.NewSource(seed))
	ends := someEnds()
	for i := range many {
		var l []api.Span
		for range random.Intn(9) {
			switch i % 3 {
			case 0:
				from := random.Intn(1024)
				l = append(l, api.Span{From: from, To: from + 1 + random.Intn(1024-from)})
			case 1:
				l = append(l, api.Span{From: 100 + random.Intn(12), To: 100 + random.Intn(12)})
			default:
				l = append(l, api.Span{From: ends[random.Intn(len(ends))], To: ends[random.Intn(len(ends))]})
			}
		}
		all = append(all, l)
	}
	return all
}

// has says by the words of the chapter whether a number is one of the days of a list.
func has(l []api.Span, m int) bool {
	if m < 0 || m > 1023 {
		return false
	}
	for _, s := range l {
		if s.From <= m && m < s.To {
			return true
		}
	}
	return false
}

// normal is the normal list of the days with a property, grown day by day.
func normal(in func(m int) bool) (l []api.Span) {
	for m := range 1024 {
		if !in(m) {
			continue
		}
		if last := len(l) - 1; last >= 0 && l[last].To == m {
			l[last].To = m + 1
		} else {
			l = append(l, api.Span{From: m, To: m + 1})
		}
	}
	return l
}

// covers looks at the numbers of a span one by one.
func covers(l []api.Span, s api.Span) bool {
	for m := s.From; m < s.To; m++ {
		if !has(l, m) {
			return false
		}
	}
	return true
}

func union(a, b []api.Span) []api.Span {
	return normal(func(m int) bool { return has(a, m) || has(b, m) })
}

func meet(a, b []api.Span) []api.Span {
	return normal(func(m int) bool { return has(a, m) && has(b, m) })
}

func minus(a, b []api.Span) []api.Span {
	return normal(func(m int) bool { return has(a, m) && !has(b, m) })
}

func TestCheckExamples(t *testing.T) { // P3.1
	for i, x := range []struct {
		l    []api.Span
		want api.Errno
	}{
		{nil, api.OK},
		{list(0, 1), api.OK},
		{list(0, 1024), api.OK},
		{list(1023, 1024), api.OK},
		{list(20, 30, 10, 20), api.OK},
		{list(10, 20, 15, 30, 10, 20), api.OK},
		{list(0, 0), api.ErrSpans},
		{list(5, 5), api.ErrSpans},
		{list(6, 5), api.ErrSpans},
		{list(-1, 1), api.ErrSpans},
		{list(-1, 0), api.ErrSpans},
		{list(0, 1025), api.ErrSpans},
		{list(1024, 1024), api.ErrSpans},
		{list(1024, 1025), api.ErrSpans},
		{list(math.MinInt, math.MaxInt), api.ErrSpans},
		{list(math.MaxInt, math.MinInt), api.ErrSpans},
	} {
		if e := spans.Check(x.l); e != x.want {
			t.Error(i, e)
		}
	}
}

// TestCheckEach puts each span among spans that are right, at each place.
func TestCheckEach(t *testing.T) { // P3.1
	right := list(0, 1024, 7, 8, 3, 9, 1000, 1024)
	for _, s := range someSpans() {
		want := api.ErrSpans
		if 0 <= s.From && s.From < s.To && s.To <= 1024 {
			want = api.OK
		}
		for at := range len(right) + 1 {
			if e := spans.Check(slices.Insert(slices.Clone(right), at, s)); e != want {
				t.Error(s, at, e)
			}
		}
	}
}

func TestNormalExamples(t *testing.T) { // P3.1
	for i, x := range []struct{ l, want []api.Span }{
		{nil, nil},
		{list(5, 5), nil},
		{list(6, 5), nil},
		{list(10, 20, 15, 30), list(10, 30)},
		{list(15, 30, 10, 20), list(10, 30)},
		{list(10, 20, 20, 30), list(10, 30)},
		{list(10, 20, 21, 30), list(10, 20, 21, 30)},
		{list(21, 30, 10, 20), list(10, 20, 21, 30)},
		{list(10, 30, 15, 20), list(10, 30)},
		{list(10, 20, 10, 20, 10, 20), list(10, 20)},
		{list(10, 20, 20, 10), list(10, 20)},
		{list(0, 5, 1, 2, 3, 4), list(0, 5)},
		{list(4, 5, 2, 3, 0, 1), list(0, 1, 2, 3, 4, 5)},
		{list(0, 1024), list(0, 1024)},
		{list(-5, 2000), list(0, 1024)},
		{list(-5, 0), nil},
		{list(-5, 1), list(0, 1)},
		{list(1024, 2000), nil},
		{list(1023, 2000), list(1023, 1024)},
		{list(2000, -5), nil},
		{list(math.MinInt, math.MaxInt), list(0, 1024)},
		{list(math.MaxInt, math.MinInt), nil},
		{list(math.MinInt, 3, 5, math.MaxInt), list(0, 3, 5, 1024)},
		{list(1023, 1024, 0, 1), list(0, 1, 1023, 1024)},
	} {
		if l := spans.Normal(x.l); !slices.Equal(l, x.want) {
			t.Error(i, l)
		}
	}
}

func TestNormalReference(t *testing.T) { // P3.1
	for _, s := range someSpans() {
		l := []api.Span{s}
		if x := spans.Normal(l); !slices.Equal(x, normal(func(m int) bool { return has(l, m) })) {
			t.Error(s, x)
		}
	}
	for _, l := range someLists(1, 900) {
		if x := spans.Normal(l); !slices.Equal(x, normal(func(m int) bool { return has(l, m) })) {
			t.Error(l, x)
		}
	}
}

// TestNormalMany has as many spans in the normal list as there can be.
func TestNormalMany(t *testing.T) { // P3.1
	for first := range 2 {
		var want []api.Span
		for from := first; from < 1024; from += 2 {
			want = append(want, api.Span{From: from, To: from + 1})
		}
		l := slices.Clone(want)
		slices.Reverse(l)
		if x := spans.Normal(l); len(x) != 512 || !slices.Equal(x, want) {
			t.Error(first, x)
		}
		if e := spans.Check(l); e != api.OK {
			t.Error(first, e)
		}
	}
}

func TestSetsExamples(t *testing.T) { // P3.2
	for i, x := range []struct{ a, b, union, meet, minus []api.Span }{
		{nil, nil, nil, nil, nil},
		{list(3, 9), nil, list(3, 9), nil, list(3, 9)},
		{nil, list(3, 9), list(3, 9), nil, nil},
		{list(0, 1024), list(0, 10), list(0, 1024), list(0, 10), list(10, 1024)},
		{list(0, 10), list(0, 1024), list(0, 1024), list(0, 10), nil},
		{list(3, 9), list(3, 9), list(3, 9), list(3, 9), nil},
		{list(3, 9), list(9, 12), list(3, 12), nil, list(3, 9)},
		{list(3, 9), list(10, 12), list(3, 9, 10, 12), nil, list(3, 9)},
		{list(3, 9), list(8, 12), list(3, 12), list(8, 9), list(3, 8)},
		{list(3, 9), list(5, 7), list(3, 9), list(5, 7), list(3, 5, 7, 9)},
		{list(1, 2, 5, 6), list(2, 5), list(1, 6), nil, list(1, 2, 5, 6)},
		{list(8, 9, 1, 4), list(6, 7, 3, 9), list(1, 9), list(3, 4, 8, 9), list(1, 3)},
		{list(-5, 3), list(-9, 2), list(0, 3), list(0, 2), list(2, 3)},
		{list(1020, 2000), list(1022, 1023, 1024, 3000), list(1020, 1024), list(1022, 1023), list(1020, 1022, 1023, 1024)},
		{list(-9, 0, 1024, 1030), list(1025, 1029, 7, 6), nil, nil, nil},
		{list(math.MinInt, math.MaxInt), list(math.MaxInt, math.MinInt), list(0, 1024), nil, list(0, 1024)},
		{list(9, 3), list(4, 5), list(4, 5), nil, nil},
	} {
		u, m, d := spans.Union(x.a, x.b), spans.Meet(x.a, x.b), spans.Minus(x.a, x.b)
		if !slices.Equal(u, x.union) || !slices.Equal(m, x.meet) || !slices.Equal(d, x.minus) {
			t.Error(i, u, m, d)
		}
	}
}

func TestSetsReference(t *testing.T) { // P3.2
	lists := someLists(2, 90)
	for _, a := range lists {
		for _, b := range lists[:30] {
			if x := spans.Union(a, b); !slices.Equal(x, union(a, b)) {
				t.Error("union", a, b, x)
			}
			if x := spans.Meet(a, b); !slices.Equal(x, meet(a, b)) {
				t.Error("meet", a, b, x)
			}
			if x := spans.Minus(a, b); !slices.Equal(x, minus(a, b)) {
				t.Error("minus", a, b, x)
			}
		}
	}
}

func TestHas(t *testing.T) { // P3.3
	l := list(10, 20, 0, 1, 20, 21, 30, 25, 1000, 3000, -7, -3, 15, 18)
	for _, x := range []struct {
		day  int
		want bool
	}{
		{math.MinInt, false}, {-5, false}, {-1, false}, {0, true}, {1, false}, {9, false}, {10, true}, {15, true}, {17, true}, {19, true}, {20, true}, {21, false},
		{25, false}, {27, false}, {30, false}, {999, false}, {1000, true}, {1023, true}, {1024, false}, {2999, false}, {3000, false}, {math.MaxInt, false},
	} {
		if ok := spans.Has(l, x.day); ok != x.want {
			t.Error(x.day)
		}
	}
	all := list(math.MinInt, math.MaxInt)
	for _, day := range someEnds() {
		if spans.Has(all, day) != (0 <= day && day < 1024) || spans.Has(nil, day) {
			t.Error(day)
		}
	}
}

func TestHasReference(t *testing.T) { // P3.3
	for _, l := range someLists(3, 300) {
		for day := -3; day < 1030; day++ {
			if spans.Has(l, day) != has(l, day) {
				t.Error(l, day)
			}
		}
		for _, day := range someEnds() {
			if spans.Has(l, day) != has(l, day) {
				t.Error(l, day)
			}
		}
	}
}

func TestCovers(t *testing.T) { // P3.3
	l := list(10, 20, 0, 10, 30, 40, 1000, 3000, -7, -3)
	for i, x := range []struct {
		from, to int
		want     bool
	}{
		{5, 15, true}, {0, 20, true}, {0, 21, false}, {-1, 20, false}, {9, 11, true}, {19, 20, true}, {20, 21, false}, {19, 31, false}, {20, 30, false},
		{0, 40, false}, {30, 40, true}, {29, 40, false}, {30, 41, false}, {35, 36, true}, {1000, 1024, true}, {999, 1024, false}, {1000, 1025, false},
		{1023, 1024, true}, {1024, 1025, false}, {1500, 1501, false}, {-6, -4, false}, {-1, 0, false}, {0, 1, true},
		{7, 7, true}, {25, 25, true}, {9, 7, true}, {29, 21, true}, {-9, -9, true}, {1024, 1024, true}, {5000, 4000, true},
		{math.MinInt, math.MaxInt, false}, {math.MaxInt, math.MinInt, true}, {math.MaxInt - 1, math.MaxInt, false}, {math.MaxInt, math.MaxInt, true}, {math.MinInt, math.MinInt + 1, false}, {math.MinInt, math.MinInt, true},
	} {
		if spans.Covers(l, api.Span{From: x.from, To: x.to}) != x.want {
			t.Error(i, x)
		}
	}
}

// TestCoversEmpty asks for spans without a number, and for spans with numbers outside the calendar alone.
func TestCoversEmpty(t *testing.T) { // P3.3
	for _, s := range someSpans() {
		for _, l := range [][]api.Span{nil, list(5, 5), list(0, 1024), list(math.MinInt, math.MaxInt)} {
			if s.From >= s.To && !spans.Covers(l, s) {
				t.Error(l, s, "is empty")
			}
			if s.From < s.To && (s.From < 0 || s.To > 1024) && spans.Covers(l, s) {
				t.Error(l, s, "is not in the calendar")
			}
		}
		if s.From < s.To && spans.Covers(nil, s) {
			t.Error(s, "has a number")
		}
	}
}

func TestCoversReference(t *testing.T) { // P3.3
	for _, l := range someLists(4, 300) {
		asked := append(someSpans(), l...)
		asked = append(asked, normal(func(m int) bool { return has(l, m) })...)
		for from := 98; from < 114; from++ {
			for to := 98; to < 114; to++ {
				asked = append(asked, api.Span{From: from, To: to})
			}
		}
		for _, s := range asked {
			if spans.Covers(l, s) != covers(l, s) {
				t.Error(l, s)
			}
		}
	}
}

// cornerSets are all sets that consist of some days at both ends of the calendar and in the middle, so that they are next to each other and not.
func cornerSets() (sets [][]api.Span) {
	parts := list(0, 1, 1, 512, 512, 513, 1023, 1024)
	for chosen := range 1 << len(parts) {
		var l []api.Span
		for i, s := range parts {
			if chosen>>i&1 == 1 {
				l = append(l, s)
			}
		}
		sets = append(sets, l)
	}
	return sets
}

func TestNormalLists(t *testing.T) { // P3.4
	for _, l := range slices.Concat(someLists(5, 300), cornerSets()) {
		x := spans.Normal(l)
		if e := spans.Check(x); e != api.OK {
			t.Error(l, x, e)
		}
		if again := spans.Normal(x); !slices.Equal(again, x) {
			t.Error(l, x, again)
		}
		for i := 1; i < len(x); i++ {
			if x[i-1].To >= x[i].From {
				t.Error(l, x)
			}
		}
		for _, s := range x {
			if !spans.Covers(l, s) {
				t.Error(l, x, s)
			}
		}
	}
}

func TestLawsOfPairs(t *testing.T) { // P3.4
	sets := slices.Concat(cornerSets(), someLists(6, 60))
	for _, a := range sets {
		own := spans.Normal(a)
		if !slices.Equal(spans.Union(a, a), own) || !slices.Equal(spans.Meet(a, a), own) || len(spans.Minus(a, a)) != 0 {
			t.Error("idempotent", a)
		}
		for _, b := range sets {
			u, m, d := spans.Union(a, b), spans.Meet(a, b), spans.Minus(a, b)
			if !slices.Equal(u, spans.Union(b, a)) || !slices.Equal(m, spans.Meet(b, a)) {
				t.Error("commutative", a, b)
			}
			if !slices.Equal(spans.Union(d, m), own) || len(spans.Meet(d, m)) != 0 {
				t.Error("parts", a, b, d, m)
			}
			if !slices.Equal(spans.Union(d, b), u) || len(spans.Meet(d, b)) != 0 {
				t.Error("rest", a, b, d)
			}
			for _, x := range [][]api.Span{u, m, d} {
				if spans.Check(x) != api.OK || !slices.Equal(spans.Normal(x), x) {
					t.Error("not normal", a, b, x)
				}
			}
		}
	}
}

func TestLawsOfTriples(t *testing.T) { // P3.4
	sets := append(cornerSets(), someLists(7, 6)...)
	for _, a := range sets {
		for _, b := range sets {
			u, m := spans.Union(a, b), spans.Meet(a, b)
			for _, c := range sets {
				orc, andc := spans.Union(b, c), spans.Meet(b, c)
				if !slices.Equal(spans.Union(u, c), spans.Union(a, orc)) || !slices.Equal(spans.Meet(m, c), spans.Meet(a, andc)) {
					t.Error("associative", a, b, c)
				}
				if !slices.Equal(spans.Meet(a, orc), spans.Union(m, spans.Meet(a, c))) || !slices.Equal(spans.Union(a, andc), spans.Meet(u, spans.Union(a, c))) {
					t.Error("distributive", a, b, c)
				}
			}
		}
	}
}

func TestCoversWithout(t *testing.T) { // P3.4
	for _, l := range slices.Concat(cornerSets(), someLists(8, 60)) {
		for _, s := range someSpans() {
			if s.From < s.To && (s.From < 0 || s.To > 1024) {
				continue
			}
			without := spans.Minus([]api.Span{s}, l)
			if spans.Covers(l, s) != (len(without) == 0) {
				t.Error(l, s, without)
			}
		}
		for day := range 1024 {
			if spans.Has(l, day) != spans.Covers(l, api.Span{From: day, To: day + 1}) {
				t.Error(l, day)
			}
		}
	}
}

// TestLongLists has lists of so many wide spans that nobody can go through the days of each.
func TestLongLists(t *testing.T) { // R1, R7
	wide := slices.Repeat(list(0, 1023, 1, 1024, math.MinInt, 1000, 20, math.MaxInt), 1<<19)
	none := slices.Repeat(list(1024, 0, 1024, 2048, -5, 0, 7, 7), 1<<19)
	if x := spans.Normal(wide); !slices.Equal(x, list(0, 1024)) {
		t.Error(x)
	}
	if x := spans.Minus(wide, list(5, 6)); !slices.Equal(x, list(0, 5, 6, 1024)) {
		t.Error(x)
	}
	if x := spans.Union(none, list(5, 6)); !slices.Equal(x, list(5, 6)) {
		t.Error(x)
	}
	if x := spans.Meet(wide, none); len(x) != 0 {
		t.Error(x)
	}
	if !spans.Covers(wide, api.Span{From: 0, To: 1024}) || spans.Covers(none, api.Span{From: 7, To: 8}) || spans.Has(none, 7) || !spans.Has(wide, 1023) {
		t.Error("covers and has")
	}
	if spans.Check(wide) != api.ErrSpans || spans.Check(slices.Repeat(list(0, 1024), 1<<19)) != api.OK {
		t.Error("check")
	}
}

// TestPure looks at whole arrays behind the arguments, and changes results, which must not show anywhere else.
func TestPure(t *testing.T) { // R2, R6
	array := list(1, 2, 30, 40, 10, 20, 15, 25, 900, 2000, 77, 78)
	before := slices.Clone(array)
	l, other := array[1:4], array[3:5]
	calls := []func() []api.Span{
		func() []api.Span { return spans.Normal(l) },
		func() []api.Span { return spans.Normal(spans.Normal(l)) },
		func() []api.Span { return spans.Union(l, other) },
		func() []api.Span { return spans.Union(l, nil) },
		func() []api.Span { return spans.Meet(l, other) },
		func() []api.Span { return spans.Meet(l, l) },
		func() []api.Span { return spans.Minus(l, other) },
		func() []api.Span { return spans.Minus(l, nil) },
	}
	for i, call := range calls {
		first := call()
		want := slices.Clone(first)
		spans.Check(l)
		spans.Has(l, 12)
		spans.Covers(l, api.Span{From: 12, To: 38})
		second := call()
		if !slices.Equal(second, want) || !slices.Equal(first, want) {
			t.Error(i, first, second)
		}
		clear(first)
		if third := call(); !slices.Equal(second, want) || !slices.Equal(third, want) {
			t.Error(i, second, third)
		}
		if !slices.Equal(array, before) {
			t.Fatal(i, array)
		}
	}
}

func TestEmptySlices(t *testing.T) { // R3
	none, empty, l := []api.Span(nil), []api.Span{}, list(3, 9)
	for _, x := range [][]api.Span{none, empty} {
		if spans.Check(x) != api.OK || len(spans.Normal(x)) != 0 {
			t.Error("check and normal")
		}
		if !slices.Equal(spans.Union(x, l), l) || len(spans.Meet(x, l)) != 0 || len(spans.Minus(x, l)) != 0 {
			t.Error("first")
		}
		if !slices.Equal(spans.Union(l, x), l) || len(spans.Meet(l, x)) != 0 || !slices.Equal(spans.Minus(l, x), l) {
			t.Error("second")
		}
		if spans.Has(x, 0) || spans.Covers(x, l[0]) || !spans.Covers(x, api.Span{From: 9, To: 9}) {
			t.Error("has and covers")
		}
	}
}
