package step_test

import (
	"iter"
	"slices"

	"hachure/api"
)

func span(lo, hi int) api.Span { return api.Span{Lo: lo, Hi: hi} }

// board is a kind.
func board(name string, lo, hi, grow, have int) api.SpKind {
	return api.SpKind{Name: name, Thick: span(lo, hi), Grow: grow, Have: have}
}

// was is a measure.
func was(lo, hi, air int, counts ...int) api.SpMeasure {
	return api.SpMeasure{Counts: counts, Air: air, Level: span(lo, hi)}
}

// relief is S of the chapter's examples, with further measures.
func relief(further ...api.SpMeasure) api.SpStack {
	return api.SpStack{
		Kinds:    []api.SpKind{board("thin", 300, 304, 1, 6), board("fat", 1000, 1006, 2, 4)},
		Air:      span(0, 10),
		Measures: append([]api.SpMeasure{was(1606, 1608, 0, 2, 1)}, further...),
		Bands:    []api.Span{span(1295, 1340), span(2600, 2680), span(3200, 3305)},
	}
}

// contrary is S with a measure that contradicts its first one.
func contrary() api.SpStack { return relief(was(1500, 1600, 0, 2, 1)) }

// blocks are boards that are just 10 and 3 thick, some of each, in air that does not matter.
func blocks(tens, threes int, bands ...api.Span) api.SpStack {
	return api.SpStack{Kinds: []api.SpKind{board("ten", 10, 10, 0, tens), board("three", 3, 3, 0, threes)}, Bands: bands}
}

func clone(s api.SpStack) api.SpStack {
	s.Kinds, s.Measures, s.Bands = slices.Clone(s.Kinds), slices.Clone(s.Measures), slices.Clone(s.Bands)
	for i := range s.Measures {
		s.Measures[i].Counts = slices.Clone(s.Measures[i].Counts)
	}
	return s
}

func same(a, b api.SpStack) bool {
	sameMeasure := func(m, o api.SpMeasure) bool {
		return m.Air == o.Air && m.Level == o.Level && slices.Equal(m.Counts, o.Counts)
	}
	return slices.Equal(a.Kinds, b.Kinds) && a.Air == b.Air && slices.EqualFunc(a.Measures, b.Measures, sameMeasure) && slices.Equal(a.Bands, b.Bands)
}

func samePlan(a, b [][]int) bool { return slices.EqualFunc(a, b, slices.Equal[[]int]) }

// lists yields all lists of a number of each span, the first ones first. The list is used again for the next ones.
func lists(spans []api.Span) iter.Seq[[]int] {
	return func(yield func([]int) bool) {
		list := make([]int, len(spans))
		var from func(at int) bool
		from = func(at int) bool {
			if at == len(list) {
				return yield(list)
			}
			for list[at] = spans[at].Lo; list[at] <= spans[at].Hi; list[at]++ {
				if !from(at + 1) {
					return false
				}
			}
			return true
		}
		from(0)
	}
}

// level returns the level of counts in a truth and in some air.
func level(s api.SpStack, counts, thick []int, air int) (sum int) {
	for i, k := range s.Kinds {
		sum += counts[i] * thick[i]
		sum += counts[i] * k.Grow * air
	}
	return sum
}

// truths returns all truths that agree with the measures that are not left out, the first ones first.
func truths(s api.SpStack, out ...int) (list [][]int) {
	var spans []api.Span
	for _, k := range s.Kinds {
		spans = append(spans, k.Thick)
	}
	for t := range lists(spans) {
		agrees := true
		for i, m := range s.Measures {
			n := level(s, m.Counts, t, m.Air)
			if !slices.Contains(out, i) && (n < m.Level.Lo || n > m.Level.Hi) {
				agrees = false
			}
		}
		if agrees {
			list = append(list, slices.Clone(t))
		}
	}
	return list
}

// levels returns the least and the greatest level of counts in some truths, in any air.
func levels(s api.SpStack, truths [][]int, counts []int) (r api.Span) {
	for i, t := range truths {
		for air := s.Air.Lo; air <= s.Air.Hi; air++ {
			n := level(s, counts, t, air)
			if i == 0 && air == s.Air.Lo {
				r = span(n, n)
			}
			r = span(min(r.Lo, n), max(r.Hi, n))
		}
	}
	return r
}

// miss is what is shown of a plan that is not good.
type miss struct {
	band       int
	thick      []int
	air, level int
}

// missed returns the first band that a plan misses, and where, found by trying all truths in all air.
func missed(s api.SpStack, truths, plan [][]int) (m miss, is bool) {
	for i, band := range s.Bands {
		for _, t := range truths {
			for air := s.Air.Lo; air <= s.Air.Hi; air++ {
				if n := level(s, plan[i], t, air); n < band.Lo || n > band.Hi {
					return miss{i, t, air, n}, true
				}
			}
		}
	}
	return miss{}, false
}

// good yields all plans that meet some of the first bands, all of these, the first ones first. The plan is used again.
func good(s api.SpStack, truths [][]int, bands int) iter.Seq[[][]int] {
	return func(yield func([][]int) bool) {
		var from func(plan [][]int) bool
		from = func(plan [][]int) bool {
			if len(plan) == bands {
				return yield(plan)
			}
			var spans []api.Span
			for i, k := range s.Kinds {
				least := 0
				if len(plan) > 0 {
					least = plan[len(plan)-1][i]
				}
				spans = append(spans, span(least, k.Have))
			}
			for counts := range lists(spans) {
				r, band := levels(s, truths, counts), s.Bands[len(plan)]
				if r.Lo >= band.Lo && r.Hi <= band.Hi && !from(append(plan, counts)) {
					return false
				}
			}
			return true
		}
		from(nil)
	}
}

// boards returns how many boards a plan has.
func boards(plan [][]int) (sum int) {
	if len(plan) == 0 {
		return 0
	}
	for _, n := range plan[len(plan)-1] {
		sum += n
	}
	return sum
}

// tried is what is found of a stack by trying all its plans.
type tried struct {
	plan [][]int
	is   bool
	met  int
}

// try tries all plans of a stack some of whose truths agree.
func try(s api.SpStack) (r tried) {
	truths := truths(s)
	for plan := range good(s, truths, len(s.Bands)) {
		if !r.is || boards(plan) < boards(r.plan) {
			r.plan, r.is = nil, true
			for _, counts := range plan {
				r.plan = append(r.plan, slices.Clone(counts))
			}
		}
	}
	for r.met < len(s.Bands) {
		any := false
		for range good(s, truths, r.met+1) {
			any = true
			break
		}
		if !any {
			break
		}
		r.met++
	}
	return r
}

// dice gives numbers that look random, and are the same in each run.
type dice uint64

func (d *dice) roll(n int) int {
	*d = *d*6364136223846793005 + 1442695040888963407
	return int(uint64(*d)>>33) % n
}

// from returns a number from lo to hi.
func (d *dice) from(lo, hi int) int { return lo + d.roll(hi-lo+1) }

// counts returns a number from 0 to most for each of some kinds, not all of them 0.
func (d *dice) counts(kinds, most int) []int {
	list := make([]int, kinds)
	for i := range list {
		list[i] = d.from(0, most)
	}
	if slices.Max(list) == 0 {
		list[d.roll(kinds)] = 1
	}
	return list
}

// measure returns a measure of a truth; by raises it.
func (d *dice) measure(s api.SpStack, thick []int, by int) api.SpMeasure {
	m := api.SpMeasure{Counts: d.counts(len(s.Kinds), 4), Air: d.from(0, 3)}
	n := level(s, m.Counts, thick, m.Air) + by
	m.Level = span(max(0, n-d.from(0, 3)), max(0, n)+d.from(0, 3))
	return m
}

// bands returns bands around the levels of some boards that are stacked up, as many as do not overlap. Some are a bit
// narrower than these levels.
func (d *dice) bands(s api.SpStack, truths [][]int, many int) (bands []api.Span) {
	counts := make([]int, len(s.Kinds))
	last := 0
	for range many {
		for i := range counts {
			counts[i] = min(counts[i]+d.roll(2), 5)
		}
		r := levels(s, truths, counts)
		r = span(r.Lo-d.from(-1, 4), r.Hi+d.from(-1, 4))
		if r.Lo > last && r.Hi >= r.Lo {
			bands = append(bands, r)
			last = r.Hi
		}
	}
	return bands
}

// tale returns a small stack that was measured of a truth, and this truth.
func (d *dice) tale(kinds, measures int) (s api.SpStack, thick []int) {
	for i := range kinds {
		lo := d.from(2, 30)
		k := board(string(rune('a'+i)), lo, lo+d.from(0, 3), d.from(0, 2), d.from(0, 4))
		s.Kinds = append(s.Kinds, k)
		thick = append(thick, d.from(k.Thick.Lo, k.Thick.Hi))
	}
	s.Air.Lo = d.from(0, 2)
	s.Air.Hi = s.Air.Lo + d.from(0, 2)
	for range measures {
		s.Measures = append(s.Measures, d.measure(s, thick, 0))
	}
	s.Bands = d.bands(s, truths(s), d.roll(6))
	return s, thick
}

// mixed returns a small stack whose measures can contradict each other.
func (d *dice) mixed() api.SpStack {
	s, thick := d.tale(d.from(1, 3), d.roll(4))
	for range d.roll(3) {
		s.Measures = append(s.Measures, d.measure(s, thick, d.from(-9, 9)))
	}
	return s
}
