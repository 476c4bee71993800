package spans

import (
	"iter"
	"slices"

	"testamur/api"
)

// days says of each day whether it is in a set.
type days [api.MaxDay]bool

// daysOf returns the days of a list. It counts where spans begin and end, and goes through the calendar once, because a list may have very many spans, each of them as long as the calendar.
func daysOf(l []api.Span) *days {
	var change [api.MaxDay + 1]int
	for _, s := range l {
		if from, to := inCalendar(s.From), inCalendar(s.To); from < to {
			change[from]++
			change[to]--
		}
	}
	var d days
	around := 0
	for day := range d {
		around += change[day]
		d[day] = around > 0
	}
	return &d
}

// inCalendar returns the end of a span that lies in the calendar and has the same days in it.
func inCalendar(end int) int { return min(max(end, 0), api.MaxDay) }

// longest yields the longest sequences of consecutive days, in increasing order.
func (d *days) longest() iter.Seq[api.Span] {
	return func(yield func(s api.Span) bool) {
		for to := 0; to < len(d); {
			from := d.next(to, true)
			to = d.next(from, false)
			if from < to && !yield(api.Span{From: from, To: to}) {
				return
			}
		}
	}
}

// next returns the first day, from a day on, that is in the set or is not, as wanted; the end of the calendar if there is none.
func (d *days) next(day int, wanted bool) int {
	for day < len(d) && d[day] != wanted {
		day++
	}
	return day
}

// combine returns the normal list of the days that a condition keeps, by whether they are in each of two sets.
func combine(a, b []api.Span, keep func(inA, inB bool) bool) (x []api.Span) {
	inA, inB := daysOf(a), daysOf(b)
	var kept days
	for day := range kept {
		kept[day] = keep(inA[day], inB[day])
	}
	return slices.Collect(kept.longest())
}
