package facts

import (
	"maps"
	"slices"
	"sort"

	"testamur/api"
)

// differences returns how the keys that are asked for differ at two times.
func differences(l []api.Fact, before, after int, asked func(k api.Key) bool) (c []api.Differ) {
	earlier, later := min(before, after), max(before, after)
	facts := amended(l, earlier, later, asked)
	for _, k := range slices.SortedFunc(maps.Keys(facts), orderKeys) {
		if days := differingDays(facts[k], earlier); len(days) > 0 {
			c = append(c, api.Differ{Key: k, Days: days})
		}
	}
	return c
}

// amended returns all facts up to the later of two times of the keys that are asked for and have a fact that became known between the times. No other key differs, because the same facts are known about it at both.
func amended(l []api.Fact, earlier, later int, asked func(k api.Key) bool) map[api.Key][]*api.Fact {
	facts := map[api.Key][]*api.Fact{}
	for i := range l {
		if f := &l[i]; earlier < f.Known && f.Known <= later && asked(f.Key) {
			facts[f.Key] = nil
		}
	}
	for i := range l {
		f := &l[i]
		if known, ok := facts[f.Key]; ok && f.Known <= later {
			facts[f.Key] = append(known, f)
		}
	}
	return facts
}

// differingDays returns the days on which a key differs if, of its facts, only those up to an earlier time are known.
func differingDays(facts []*api.Fact, earlier int) []api.Span {
	slices.SortStableFunc(facts, order)
	old := sort.Search(len(facts), func(i int) bool { return facts[i].Known > earlier })
	return unequal(course(facts[:old], 0, api.MaxDay), course(facts, 0, api.MaxDay))
}

// meets reports whether one of the days of a read is in one of the spans, which are in increasing order and not empty. If the first span that ends after the beginning of the read does not meet it, no later one does.
func meets(l []api.Span, r api.Read) bool {
	first := sort.Search(len(l), func(i int) bool { return r.From < l[i].To })
	return first < len(l) && max(r.From, l[first].From) < min(r.To, l[first].To)
}
