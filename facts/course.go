package facts

import (
	"slices"

	"testamur/api"
)

// course returns the value of a key, or none, on each day from one up to before another one, both of which lie in the calendar. The facts are those of the key, in their order. The last one takes its days first, so that each day is taken once only: there may be very many facts, each of them as long as the calendar.
func course(facts []*api.Fact, from, to int) []int {
	values := slices.Repeat([]int{none}, to-from)
	free := allFree(to - from)
	for _, f := range slices.Backward(facts) {
		end := inside(f.Valid.To, from, to) - from
		for i := free.next(inside(f.Valid.From, from, to) - from); i < end; i = free.next(i) {
			values[i] = max(f.Value, none)
			free.take(i)
		}
	}
	return values
}

// freeDays says which days no fact has taken: the element of such a day is the day itself, that of another one is a later day, and all days between them are taken. There is one more element than days, which is never taken.
type freeDays []int

func allFree(days int) freeDays {
	free := make(freeDays, days+1)
	for day := range free {
		free[day] = day
	}
	return free
}

// next returns the first free day from a day on. It shortens the way that it goes, so that the next ones find it faster.
func (free freeDays) next(day int) int {
	for free[day] != day {
		free[day] = free[free[day]]
		day = free[day]
	}
	return day
}

func (free freeDays) take(day int) { free[day] = day + 1 }

// unequal returns the longest spans of the days on which two courses of the calendar have different values.
func unequal(a, b []int) (l []api.Span) {
joining:
	for from := 0; from < len(a); from++ {
		if a[from] == b[from] {
			continue
		}
		for to := from + 1; ; to++ {
			if to == len(a) || a[to] == b[to] {
				l = append(l, api.Span{From: from, To: to})
				from = to
				continue joining
			}
		}
	}
	return l
}
