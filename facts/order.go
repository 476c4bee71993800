package facts

import (
	"cmp"
	"iter"

	"testamur/api"
)

// The greatest numbers of valid facts, as far as package api does not name them.
const (
	maxKind    = 15
	maxSubject = 4095
	maxObject  = 1023
	maxNo      = 65535
)

// none is the value that says that there is none.
const none = -1

func valid(f *api.Fact) bool {
	return between(f.Key.Kind, 0, maxKind) && between(f.Key.Subject, 0, maxSubject) && between(f.Key.Object, 0, maxObject) &&
		between(f.Value, none, api.MaxValue) && between(f.Known, 1, api.MaxKnown) && between(f.No, 0, maxNo) &&
		0 <= f.Valid.From && f.Valid.From < f.Valid.To && f.Valid.To <= api.MaxDay
}

func between(n, least, greatest int) bool { return least <= n && n <= greatest }

// inside returns the number of a range that is nearest to a number.
func inside(n, least, greatest int) int { return min(max(n, least), greatest) }

// order compares facts: of two facts of a key on a day, the greater one counts.
func order(a, b *api.Fact) int {
	return cmp.Or(cmp.Compare(a.Known, b.Known), cmp.Compare(a.No, b.No))
}

func orderKeys(a, b api.Key) int {
	return cmp.Or(cmp.Compare(a.Kind, b.Kind), cmp.Compare(a.Subject, b.Subject), cmp.Compare(a.Object, b.Object))
}

// about yields the facts of a key that are known at a time, in their order in the list.
func about(l []api.Fact, k api.Key, known int) iter.Seq[*api.Fact] {
	return func(yield func(f *api.Fact) bool) {
		for i := range l {
			if f := &l[i]; f.Key == k && f.Known <= known && !yield(f) {
				return
			}
		}
	}
}
