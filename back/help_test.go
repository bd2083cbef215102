package back_test

import (
	"iter"
	"slices"

	"hachure/api"
)

func span(lo, hi int) api.Span { return api.Span{Lo: lo, Hi: hi} }

func feature(name string, nominal, err int) api.BkFeature {
	return api.BkFeature{Name: name, Nominal: nominal, Err: err}
}

func cause(name string, lo, hi int, per ...int) api.BkCause {
	return api.BkCause{Name: name, Amount: span(lo, hi), Per: per}
}

func was(feature, shown int) api.BkMeasure { return api.BkMeasure{Feature: feature, Shown: shown} }

// sample is C of the chapter's examples, with further measures.
func sample(further ...api.BkMeasure) api.BkClaim {
	return api.BkClaim{
		Features: []api.BkFeature{feature("wide", 1000, 2), feature("deep", 800, 2), feature("edge", 50, 1)},
		Causes:   []api.BkCause{cause("water", 1, 4, -5, -4, 0), cause("worn", 1, 3, -2, 0, -3), cause("scale", 1, 2, 10, 8, 1)},
		Measures: append([]api.BkMeasure{was(0, 990), was(1, 793)}, further...)}
}

// contrary is the sample with a measure with which no truth agrees.
func contrary() api.BkClaim { return sample(was(2, 90)) }

// single is a claim with one feature, which should be 1000 long, and what measures of it showed.
func single(err int, causes []api.BkCause, shown ...int) api.BkClaim {
	c := api.BkClaim{Features: []api.BkFeature{feature("side", 1000, err)}, Causes: causes}
	for _, n := range shown {
		c.Measures = append(c.Measures, was(0, n))
	}
	return c
}

// names are those of the features and causes that tests make.
func names() []string { return []string{"a", "b", "c", "d", "e", "f"} }

// clone returns a claim that shares no memory with another one.
func clone(c api.BkClaim) api.BkClaim {
	c.Features, c.Causes, c.Measures = slices.Clone(c.Features), slices.Clone(c.Causes), slices.Clone(c.Measures)
	for i := range c.Causes {
		c.Causes[i].Per = slices.Clone(c.Causes[i].Per)
	}
	return c
}

// equal reports whether two claims are the same.
func equal(a, b api.BkClaim) bool {
	sameCause := func(c, o api.BkCause) bool {
		return c.Name == o.Name && c.Amount == o.Amount && slices.Equal(c.Per, o.Per)
	}
	return slices.Equal(a.Features, b.Features) && slices.EqualFunc(a.Causes, b.Causes, sameCause) && slices.Equal(a.Measures, b.Measures)
}

func sameLists(a, b [][]int) bool { return slices.EqualFunc(a, b, slices.Equal[[]int]) }

// without returns a claim without some of its measures.
func without(c api.BkClaim, out []int) api.BkClaim {
	c = clone(c)
	for _, i := range slices.Backward(out) {
		c.Measures = slices.Delete(c.Measures, i, i+1)
	}
	return c
}

// lacking returns a claim without one of its causes.
func lacking(c api.BkClaim, cause int) api.BkClaim {
	c = clone(c)
	c.Causes = slices.Delete(c.Causes, cause, cause+1)
	return c
}

// more returns a claim with one more measure.
func more(c api.BkClaim, m api.BkMeasure) api.BkClaim {
	c = clone(c)
	c.Measures = append(c.Measures, m)
	return c
}

// length returns the length of a feature in a truth.
func length(c api.BkClaim, truth []int, feature int) int {
	n := c.Features[feature].Nominal
	for i, of := range c.Causes {
		n += truth[i] * of.Per[feature]
	}
	return n
}

// trueIn reports whether a measure is true in a truth.
func trueIn(c api.BkClaim, truth []int, m api.BkMeasure) bool {
	off, err := m.Shown-length(c, truth, m.Feature), c.Features[m.Feature].Err
	return off <= err && -off <= err
}

// agrees reports whether all measures are true in a truth.
func agrees(c api.BkClaim, truth []int) bool {
	return !slices.ContainsFunc(c.Measures, func(m api.BkMeasure) bool { return !trueIn(c, truth, m) })
}

// all yields all truths, the first ones first: the numbers are counted up like those of a clock.
func all(c api.BkClaim) iter.Seq[[]int] {
	return func(yield func([]int) bool) {
		truth := make([]int, len(c.Causes))
		for {
			if !yield(slices.Clone(truth)) {
				return
			}
			i := len(truth) - 1
			for i >= 0 && truth[i] == c.Causes[i].Amount.Hi {
				truth[i] = 0
				i--
			}
			if i < 0 {
				return
			}
			truth[i] = max(truth[i]+1, c.Causes[i].Amount.Lo)
		}
	}
}

// truths returns all truths that agree, the first ones first.
func truths(c api.BkClaim) (list [][]int) {
	for t := range all(c) {
		if agrees(c, t) {
			list = append(list, t)
		}
	}
	return list
}

// there returns the causes that are there in a truth.
func there(truth []int) (set []int) {
	for i, n := range truth {
		if n > 0 {
			set = append(set, i)
		}
	}
	return set
}

// before tells which of two lists is shorter, or, if they are as long, comes first.
func before(a, b []int) int {
	if len(a) != len(b) {
		return len(a) - len(b)
	}
	return slices.Compare(a, b)
}

// lists returns all ascending lists of some of so many numbers, the shorter ones first, and of those as long the first ones.
func lists(many int) (lists [][]int) {
	for bits := range 1 << many {
		var list []int
		for n := range many {
			if bits>>n&1 == 1 {
				list = append(list, n)
			}
		}
		lists = append(lists, list)
	}
	slices.SortFunc(lists, before)
	return lists
}

// holds reports whether a list has all numbers of another one.
func holds(list, part []int) bool {
	return !slices.ContainsFunc(part, func(n int) bool { return !slices.Contains(list, n) })
}

// explaining returns the sets of some truths, in order.
func explaining(truths [][]int) (sets [][]int) {
	for _, t := range truths {
		sets = append(sets, there(t))
	}
	slices.SortFunc(sets, before)
	return slices.CompactFunc(sets, slices.Equal[[]int])
}

// least returns those sets that have no other one as a part.
func least(sets [][]int) (least [][]int) {
	for _, s := range sets {
		lesser := func(other []int) bool { return len(other) < len(s) && holds(s, other) }
		if !slices.ContainsFunc(sets, lesser) {
			least = append(least, s)
		}
	}
	return least
}

// causes returns the causes that are there in all truths, and those that are in some.
func causes(many int, truths [][]int) (must, may []int) {
	for i := range many {
		in := 0
		for _, t := range truths {
			if t[i] > 0 {
				in++
			}
		}
		if in == len(truths) {
			must = append(must, i)
		}
		if in > 0 {
			may = append(may, i)
		}
	}
	return must, may
}

// between returns the least and the greatest number that is told of truths.
func between(truths [][]int, tell func(t []int) int) api.Span {
	var told []int
	for _, t := range truths {
		told = append(told, tell(t))
	}
	return span(slices.Min(told), slices.Max(told))
}

// plainest returns of some truths the first one of those whose set comes first.
func plainest(truths [][]int) []int {
	return slices.MinFunc(truths, func(a, b []int) int {
		if n := before(there(a), there(b)); n != 0 {
			return n
		}
		return slices.Compare(a, b)
	})
}

// wrong returns the first of the shortest lists of measures without which some truth agrees, found by trying all lists; and
// how many lists as short will do.
func wrong(c api.BkClaim) (found []int, ties int) {
	for _, list := range lists(len(c.Measures)) {
		if ties > 0 && len(list) > len(found) {
			break
		}
		if !agreed(without(c, list)) {
			continue
		}
		if ties == 0 {
			found = list
		}
		ties++
	}
	return found, ties
}

// agreed reports whether some truth agrees.
func agreed(c api.BkClaim) bool {
	for t := range all(c) {
		if agrees(c, t) {
			return true
		}
	}
	return false
}

// left returns for each number that a measure of a feature can show how many sets are left of some truths.
func left(c api.BkClaim, truths [][]int, feature int) map[int]int {
	left, err := map[int]int{}, c.Features[feature].Err
	for _, set := range explaining(truths) {
		lengths, shown := map[int]bool{}, map[int]bool{}
		for _, t := range truths {
			if slices.Equal(there(t), set) {
				lengths[length(c, t, feature)] = true
			}
		}
		for n := range lengths {
			for off := -err; off <= err; off++ {
				shown[n+off] = true
			}
		}
		for n := range shown {
			left[n]++
		}
	}
	return left
}

// ask returns what Ask should, and how many features leave as few sets.
func ask(c api.BkClaim, truths [][]int) (feature, few, ties int) {
	for i := range c.Features {
		most := 0
		for _, sets := range left(c, truths, i) {
			most = max(most, sets)
		}
		switch {
		case i == 0 || most < few:
			feature, few, ties = i, most, 1
		case most == few:
			ties++
		}
	}
	return feature, few, ties
}

// dice gives numbers that look random, and are the same in each run.
type dice uint64

func (d *dice) roll(n int) int {
	*d = *d*6364136223846793005 + 1442695040888963407
	return int(uint64(*d)>>33) % n
}

// from returns a number from lo to hi.
func (d *dice) from(lo, hi int) int { return lo + d.roll(hi-lo+1) }

// one returns one of some numbers.
func (d *dice) one(of ...int) int { return of[d.roll(len(of))] }

// most are the greatest numbers of a claim, and how many measures it has at most.
type most struct{ features, nominal, err, causes, amount, wide, per, measures int }

// per returns by how much a cause changes so many features: some of them not at all.
func (d *dice) per(features, most int) (per []int) {
	for range features {
		per = append(per, d.one(0, 1, 1)*d.from(-most, most))
	}
	return per
}

// cause returns a cause.
func (d *dice) cause(name string, features int, m most) api.BkCause {
	lo := d.from(1, m.amount)
	return cause(name, lo, min(lo+d.roll(m.wide+1), 50), d.per(features, m.per)...)
}

// claim returns a claim without measures, whose numbers are at most so great. Some causes change all features as another one
// does.
func (d *dice) claim(m most) (c api.BkClaim) {
	for i := range d.from(1, m.features) {
		c.Features = append(c.Features, feature(names()[i], d.from(1, m.nominal), d.roll(m.err+1)))
	}
	for i := range d.one(0, 1, 1, 1, 1, 1, 1, 1) * d.from(1, m.causes) {
		c.Causes = append(c.Causes, d.cause(names()[i], len(c.Features), m))
		if i > 0 && d.roll(3) == 0 {
			c.Causes[i].Per = slices.Clone(c.Causes[d.roll(i)].Per)
		}
	}
	return c
}

// truth returns a truth, in which each cause is there or not.
func (d *dice) truth(c api.BkClaim) (truth []int) {
	for _, of := range c.Causes {
		truth = append(truth, d.one(0, 1, 1)*d.from(of.Amount.Lo, of.Amount.Hi))
	}
	return truth
}

// measured returns a claim with so many more measures that are made of a truth, and off by at most Err and off more. What no
// measure can show is left out.
func (d *dice) measured(c api.BkClaim, truth []int, many, off int) api.BkClaim {
	c = clone(c)
	for range many {
		f := d.roll(len(c.Features))
		err := c.Features[f].Err + off
		if shown := length(c, truth, f) + d.from(-err, err); shown >= 0 {
			c.Measures = append(c.Measures, was(f, shown))
		}
	}
	return c
}

// of returns a claim that was measured of a truth. Now and then some measures are made of another one, or off by more than
// Err.
func (d *dice) of(m most) api.BkClaim {
	c := d.claim(m)
	truth := d.truth(c)
	c = d.measured(c, truth, d.roll(m.measures+1), 0)
	switch d.roll(5) {
	case 0:
		c = d.measured(c, truth, m.measures-len(c.Measures), d.one(1, 2, 5, 50))
	case 1:
		c = d.measured(c, d.truth(c), m.measures-len(c.Measures), 0)
	}
	return c
}

// small returns a claim with few truths, whose causes are easily taken for each other.
func (d *dice) small() api.BkClaim {
	return d.of(most{d.one(1, 2, 3), 1000, d.one(0, 0, 1, 3), 3, d.one(1, 3), d.one(0, 1, 3), d.one(2, 4, 6), d.one(2, 4, 8)})
}

// many returns a claim with many causes, of each of which there is about as much.
func (d *dice) many() api.BkClaim {
	return d.of(most{d.one(2, 5), 1000, d.one(0, 1, 3), 5, d.one(1, 2), d.one(0, 1), d.one(2, 4), d.one(2, 4, 6)})
}

// odd returns a claim of any numbers, with not too many truths.
func (d *dice) odd() api.BkClaim {
	return d.of(most{5, d.one(1, 50, 100000), d.one(0, 20, 100), 3, 50, 6, 20, 8})
}

// any returns a claim of one of the sorts.
func (d *dice) any() api.BkClaim {
	switch d.roll(3) {
	case 0:
		return d.small()
	case 1:
		return d.many()
	}
	return d.odd()
}
