package step

import (
	"cmp"
	"slices"

	"hachure/api"
)

// plan is counts for each band up to some band. For those behind it they are 0.
type plan [api.MaxSpBands]counts

// compare tells which one of two plans is the first one.
func compare(a, b plan) int {
	return slices.CompareFunc(a[:], b[:], func(c, d counts) int { return slices.Compare(c[:], d[:]) })
}

// have returns how many boards of each kind are on hand.
func (l looked) have() (c counts) {
	for i, k := range l.Kinds {
		c[i] = k.Have
	}
	return c
}

// last returns the last counts of a plan for all bands.
func (l looked) last(p plan) counts {
	if len(l.Bands) == 0 {
		return counts{}
	}
	return p[len(l.Bands)-1]
}

// boards returns how many boards a plan for all bands has.
func (l looked) boards(p plan) int {
	sum := 0
	for _, n := range l.last(p) {
		sum += n
	}
	return sum
}

// allUpTo returns all counts with at most so many boards of each kind, the first ones first.
func allUpTo(most counts) []counts {
	list := []counts{{}}
	for kind := range api.MaxSpKinds {
		var more []counts
		for _, c := range list {
			for n := range most[kind] + 1 {
				c[kind] = n
				more = append(more, c)
			}
		}
		list = more
	}
	return list
}

// plans returns the good plans with at most so many boards of each kind, ordered, and how many bands can be met: of the
// plans with the same last counts just the first one. If not all bands can be met there is none.
func (l looked) plans(most counts) (list []plan, met int) {
	list = []plan{{}}
	for band := range l.Bands {
		list = l.longer(list, band, most)
		if len(list) == 0 {
			return nil, band
		}
	}
	return list, len(l.Bands)
}

// longer returns the plans up to a band, ordered, from the list of those up to the band before it. The first one of that
// list to which counts can be added is the first one of all, as only last counts matter for what comes behind them.
func (l looked) longer(list []plan, band int, most counts) (longer []plan) {
	before := max(0, band-1)
all:
	for _, c := range allUpTo(most) {
		if !l.meets(c, l.Bands[band]) {
			continue
		}
		for _, p := range list {
			if p[before].upTo(c) {
				p[band] = c
				longer = append(longer, p)
				continue all
			}
		}
	}
	slices.SortFunc(longer, compare)
	return longer
}

// leastPlan returns the first one of the good plans with the fewest boards, and whether there is one.
func (l looked) leastPlan() (plan, bool) {
	list, met := l.plans(l.have())
	if met < len(l.Bands) {
		return plan{}, false
	}
	return slices.MinFunc(list, func(a, b plan) int { return cmp.Compare(l.boards(a), l.boards(b)) }), true
}

// more returns how many boards more of a kind have to be on hand for a good plan, or -1.
func (l looked) more(kind int) int {
	most := l.have()
	most[kind] = api.MaxSpHave
	list, met := l.plans(most)
	if met < len(l.Bands) {
		return -1
	}
	fewest := api.MaxSpHave
	for _, p := range list {
		fewest = min(fewest, l.last(p)[kind])
	}
	return max(0, fewest-l.Kinds[kind].Have)
}
