package order

import (
	"slices"

	"hachure/api"
)

// casting is a casting of a part, and the day by which it is needed.
type casting struct{ by, part int }

// queue returns the castings that are needed by the last day, in the order in which they are cast.
func (t taking) queue() (list []casting) {
	for part := range t.Parts {
		have := 0
		for day := range len(t.Hours) {
			for ; have < t.needed(day)[part]; have++ {
				list = append(list, casting{day, part})
			}
		}
	}
	slices.SortFunc(list, func(a, b casting) int {
		switch {
		case a == b:
			return 0
		case a.by < b.by, a.by == b.by && a.part < b.part:
			return -1
		}
		return 1
	})
	return list
}

// plan returns the castings of the plan of orders that can be kept.
func (t taking) plan() (plan []api.OrCast) {
	var cast castings
	for _, c := range t.queue() {
		cast[c.part]++
		plan = append(plan, api.OrCast{Part: c.part, Day: t.done(cast)})
	}
	return plan
}

// doneBy returns the castings of a plan that are done on a day or before.
func doneBy(plan []api.OrCast, day int) []api.OrCast {
	many := first(plan, func(_ int, c api.OrCast) bool { return c.Day > day })
	return plan[:many:many]
}

// kept returns how many pieces of a part are kept in the evening of each day, by the plan of orders that can be kept.
func (t taking) kept(part int) []int {
	plan := t.plan()
	return t.each(func(day int) int {
		pieces := t.Parts[part].Stock - t.due(part, day)
		for _, c := range doneBy(plan, day) {
			if c.Part == part {
				pieces += t.Parts[part].Batch
			}
		}
		return pieces
	})
}
