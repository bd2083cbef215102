package back_test

import (
	"slices"
	"strings"
	"testing"

	"hachure/api"
	"hachure/back"
)

// asked returns what a function returned, but stops the test if that is an error.
func asked[T any](t *testing.T, result T, e api.Errno) T {
	t.Helper()
	if e != api.OK {
		t.Fatalf("an error: %d", e)
	}
	return result
}

// setsOf, mustOf, amountOf, valueOf, plainestOf and wrongOf return what the functions do of a claim with which some truth
// agrees.
func setsOf(t *testing.T, c api.BkClaim) [][]int {
	t.Helper()
	sets, e := back.Sets(c)
	return asked(t, sets, e)
}

func mustOf(t *testing.T, c api.BkClaim) (must, may []int) {
	t.Helper()
	must, may, e := back.Must(c)
	return asked(t, must, e), may
}

func amountOf(t *testing.T, c api.BkClaim, cause int) api.Span {
	t.Helper()
	s, e := back.Amount(c, cause)
	return asked(t, s, e)
}

func valueOf(t *testing.T, c api.BkClaim, feature int) api.Span {
	t.Helper()
	s, e := back.Value(c, feature)
	return asked(t, s, e)
}

func plainestOf(t *testing.T, c api.BkClaim) []int {
	t.Helper()
	l, e := back.Plainest(c)
	return asked(t, l, e)
}

func wrongOf(t *testing.T, c api.BkClaim) []int {
	t.Helper()
	l, e := back.Wrong(c)
	return asked(t, l, e)
}

// hasTruth reports whether some truth agrees, by what Plainest says.
func hasTruth(t *testing.T, c api.BkClaim) bool {
	t.Helper()
	_, e := back.Plainest(c)
	if e != api.OK && e != api.ErrZero {
		t.Fatalf("an error: %d", e)
	}
	return e == api.OK
}

// agreeing returns a claim with which some truth agrees.
func (d *dice) agreeing() api.BkClaim {
	for {
		if c := d.any(); agreed(c) {
			return c
		}
	}
}

// full returns a claim with as many causes as can be, and many truths.
func (d *dice) full() api.BkClaim {
	c := d.claim(most{5, 100000, 20, 1, 50, 6, 20, 8})
	for i := len(c.Causes); i < 5; i++ {
		c.Causes = append(c.Causes, d.cause(names()[i], len(c.Features), most{amount: 50, wide: 6, per: 20}))
	}
	return c
}

func has(s api.Span, n int) bool { return s.Lo <= n && n <= s.Hi }

// inside reports whether a span has all numbers of another one.
func inside(outer, inner api.Span) bool { return has(outer, inner.Lo) && has(outer, inner.Hi) }

// P12.7: what measures are made of is left, whatever it is.
func TestTrueCauses(t *testing.T) {
	d := dice(4)
	measured, open, sure := 0, 0, 0
	for i := range 6000 {
		c := d.claim(most{5, 1000, d.one(0, 1, 5, 100), 4, d.one(3, 50), d.one(0, 2, 6), d.one(3, 20), 8})
		if i%100 == 0 {
			c = d.full()
		}
		truth := d.truth(c)
		c = d.measured(c, truth, d.roll(9), 0)
		measured += len(c.Measures)
		set := there(truth)
		must, may := mustOf(t, c)
		if !holds(set, must) || !holds(may, set) {
			t.Errorf("%v: Must = %v, %v, but it is %v", c, must, may, truth)
		}
		if len(must) < len(set) {
			open++
		} else if len(set) > 0 {
			sure++
		}
		for k, n := range truth {
			if s := amountOf(t, c, k); !has(s, n) {
				t.Errorf("%v: Amount of %d = %v, but it is %v", c, k, s, truth)
			}
		}
		for k := range c.Features {
			if s := valueOf(t, c, k); !has(s, length(c, truth, k)) {
				t.Errorf("%v: Value of %d = %v, but it is %v", c, k, s, truth)
			}
		}
		if l := wrongOf(t, c); len(l) > 0 {
			t.Errorf("%v: Wrong = %v, but it is %v", c, l, truth)
		}
		if sets := setsOf(t, c); !slices.ContainsFunc(sets, func(part []int) bool { return holds(set, part) }) {
			t.Errorf("%v: Sets = %v, but it is %v", c, sets, truth)
		}
	}
	if measured < 10000 || min(open, sure) < 1000 {
		t.Errorf("%d measures, %d claims that are open, %d that are sure: too few for a test", measured, open, sure)
	}
}

// P12.8: each set of Sets explains the claim, no lesser one does, and that of Plainest comes first.
func TestNoFewer(t *testing.T) {
	d := dice(5)
	alone, several, long := 0, 0, 0
	for i := range 8000 {
		c := d.agreeing()
		if i%200 == 0 {
			c = d.full()
			c = d.measured(c, d.truth(c), 4, 0)
		}
		explain := explaining(truths(c))
		sets := setsOf(t, c)
		for k, s := range sets {
			if !slices.IsSorted(s) || k > 0 && before(sets[k-1], s) >= 0 {
				t.Errorf("%v: Sets = %v, not in order", c, sets)
			}
			for _, other := range explain {
				if len(other) < len(s) && holds(s, other) {
					t.Errorf("%v: Sets = %v, but %v explains the claim", c, sets, other)
				}
			}
			if !slices.ContainsFunc(explain, func(other []int) bool { return slices.Equal(other, s) }) {
				t.Errorf("%v: Sets = %v, but %v does not explain the claim", c, sets, s)
			}
			if len(s) > 1 {
				long++
			}
		}
		truth := plainestOf(t, c)
		if !agrees(c, truth) || !slices.Equal(there(truth), sets[0]) {
			t.Errorf("%v: Plainest = %v, Sets = %v", c, truth, sets)
		}
		if len(sets) > 1 {
			several++
		} else {
			alone++
		}
	}
	if alone < 1000 || several < 300 || long < 500 {
		t.Errorf("%d with one set, %d with several, %d sets of several causes: too few for a test", alone, several, long)
	}
}

// P12.9: a cause that must be there is in each set, and without it no truth agrees.
func TestMustBe(t *testing.T) {
	d := dice(6)
	are, not := 0, 0
	for range 6000 {
		c := d.agreeing()
		must, may := mustOf(t, c)
		for _, s := range setsOf(t, c) {
			if !holds(s, must) || !holds(may, s) {
				t.Errorf("%v: Must = %v, %v, but %v is one of Sets", c, must, may, s)
			}
		}
		for i := range c.Causes {
			other := lacking(c, i)
			is := slices.Contains(must, i)
			if hasTruth(t, other) == is || len(setsOf(t, other)) == 0 != is {
				t.Errorf("%v: Must = %v, %v, but Sets without %d = %v", c, must, may, i, setsOf(t, other))
			}
			if is {
				are++
			} else {
				not++
			}
		}
	}
	if min(are, not) < 1000 {
		t.Errorf("%d causes that must be there, %d others: too few for a test", are, not)
	}
}

// spansOf returns Amount of all causes, and Value of all features.
func spansOf(t *testing.T, c api.BkClaim) (spans []api.Span) {
	t.Helper()
	for i := range c.Causes {
		spans = append(spans, amountOf(t, c, i))
	}
	for i := range c.Features {
		spans = append(spans, valueOf(t, c, i))
	}
	return spans
}

// P12.10: with one more measure.
func TestOneMore(t *testing.T) {
	d := dice(7)
	narrower, gained, lost, down := 0, 0, 0, 0
	for range 8000 {
		c := d.agreeing()
		c.Measures = c.Measures[:min(len(c.Measures), 7)]
		f := d.roll(len(c.Features))
		s := valueOf(t, c, f)
		other := more(c, was(f, max(0, d.from(s.Lo-2, s.Hi+2)+d.from(-1, 1)*c.Features[f].Err)))
		if !hasTruth(t, other) {
			down++
			continue
		}
		must, may := mustOf(t, c)
		then, can := mustOf(t, other)
		if !holds(then, must) || !holds(may, can) {
			t.Errorf("%v: Must = %v, %v, but of %v %v, %v", c, must, may, other, then, can)
		}
		if len(then) > len(must) {
			gained++
		}
		if len(can) < len(may) {
			lost++
		}
		spans, closer := spansOf(t, c), spansOf(t, other)
		for i, s := range spans {
			if !inside(s, closer[i]) {
				t.Errorf("%v: %v, but of %v %v", c, spans, other, closer)
			}
		}
		if !slices.Equal(spans, closer) {
			narrower++
		}
	}
	if min(narrower, gained, lost, down) < 300 {
		t.Errorf("%d with narrower spans, %d where more must be, %d where fewer may be, %d with no truth: too few for a test", narrower, gained, lost, down)
	}
}

// worst returns how many sets are left at worst if a feature is measured once more: all that can be shown is added to the
// claim as a measure.
func worst(t *testing.T, c api.BkClaim, f int) (most int) {
	t.Helper()
	s, err := valueOf(t, c, f), c.Features[f].Err
	for shown := s.Lo - err; shown <= s.Hi+err; shown++ {
		other := more(c, was(f, shown))
		if sets := len(explaining(truths(other))); sets > most {
			most = sets
		}
	}
	return most
}

// longer returns a claim in which each feature is longer by so much, and what was shown of it is, too.
func longer(c api.BkClaim, by []int) api.BkClaim {
	c = clone(c)
	for i := range c.Features {
		c.Features[i].Nominal += by[i]
	}
	for i, m := range c.Measures {
		c.Measures[i].Shown += by[m.Feature]
	}
	return c
}

// P12.11: of the feature of Ask no measure leaves more sets, of each other one some measure leaves as many, or more.
func TestAsked(t *testing.T) {
	d := dice(8)
	better, less := 0, 0
	for range 2500 {
		// All lengths are above 0, so that each number that can be shown can be a measure.
		c := longer(d.agreeing(), []int{5200, 5200, 5200, 5200, 5200})
		c.Measures = c.Measures[:min(len(c.Measures), 7)]
		if _, _, e := back.Check(c); e != api.OK || len(truths(c)) > 200 {
			continue
		}
		f, left, e := back.Ask(c)
		if e != api.OK || worst(t, c, f) != left {
			t.Errorf("%v: Ask = %d, %d, %d, but %d can be left", c, f, left, e, worst(t, c, f))
		}
		for i := range c.Features {
			n := worst(t, c, i)
			if n < left || n == left && i < f {
				t.Errorf("%v: Ask = %d, %d, but of %d %d are left", c, f, left, i, n)
			}
			if n > left {
				better++
			}
		}
		if left < len(explaining(truths(c))) {
			less++
		}
	}
	if min(better, less) < 300 {
		t.Errorf("%d features that are better, %d claims that it helps: too few for a test", better, less)
	}
}

// P12.12: without the measures of Wrong some truth agrees, without any fewer none does. It names no more than are wrong.
func TestWrongMeasures(t *testing.T) {
	d := dice(9)
	some, fewer := 0, 0
	for range 8000 {
		c := d.any()
		list := wrongOf(t, c)
		if !slices.IsSorted(list) || !hasTruth(t, without(c, list)) {
			t.Errorf("%v: Wrong = %v, but without them no truth agrees", c, list)
		}
		for _, other := range lists(len(c.Measures)) {
			if before(other, list) < 0 && hasTruth(t, without(c, other)) {
				t.Errorf("%v: Wrong = %v, but without %v some truth agrees", c, list, other)
			}
		}
		if len(list) > 1 {
			some++
		}
		truth := d.truth(c)
		c.Measures = nil
		c = d.measured(c, truth, d.roll(6), 0)
		off := d.roll(4)
		for range off {
			f := d.roll(len(c.Features))
			shown := max(0, length(c, truth, f)+d.from(-9, 9))
			c.Measures = slices.Insert(c.Measures, d.roll(len(c.Measures)+1), was(f, shown))
		}
		if list := wrongOf(t, c); len(list) > off {
			t.Errorf("%v: Wrong = %v, but just %d are wrong", c, list, off)
		} else if len(list) < off {
			fewer++
		}
	}
	if some < 200 || fewer < 100 {
		t.Errorf("%d of which several are wrong, %d of which fewer are: too few for a test", some, fewer)
	}
}

// P12.13: all features are longer, and what was shown of them is, too.
func TestLarger(t *testing.T) {
	d := dice(10)
	none, some := 0, 0
	for range 4000 {
		c := d.any()
		if slices.ContainsFunc(c.Features, func(f api.BkFeature) bool { return f.Nominal > 50000 }) {
			continue
		}
		same := d.from(1, 50000)
		by := make([]int, len(c.Features))
		for i := range by {
			by[i] = d.one(same, d.from(1, 50000))
		}
		longer := longer(c, by)
		checkSets(t, "longer", longer, setsOf(t, c), api.OK)
		if !hasTruth(t, c) {
			checkNothing(t, "longer", longer, api.ErrZero)
			none++
			continue
		}
		some++
		must, may := mustOf(t, c)
		checkMust(t, "longer", longer, must, may, api.OK)
		checkPlainest(t, "longer", longer, plainestOf(t, c), api.OK)
		for i := range c.Causes {
			checkAmount(t, "longer", longer, i, amountOf(t, c, i), api.OK)
		}
		for i := range c.Features {
			s := valueOf(t, c, i)
			checkValue(t, "longer", longer, i, span(s.Lo+by[i], s.Hi+by[i]), api.OK)
		}
	}
	if some < 1000 || none < 300 {
		t.Errorf("%d with truths, %d without: too few for a test", some, none)
	}
}

// P12.14: with one more cause behind all others.
func TestOneMoreCause(t *testing.T) {
	d := dice(11)
	sets, fewer, more := 0, 0, 0
	for range 12000 {
		c := d.any()
		if len(c.Causes) == 5 {
			continue
		}
		other := clone(c)
		other.Causes = append(other.Causes, d.cause("z", len(c.Features), most{amount: 3, wide: 2, per: 4}))
		explain := explaining(truths(other))
		now := setsOf(t, other)
		for _, s := range explaining(truths(c)) {
			if !slices.ContainsFunc(explain, func(x []int) bool { return slices.Equal(x, s) }) || !slices.ContainsFunc(now, func(x []int) bool { return holds(s, x) }) {
				t.Errorf("%v: %v explains it, but of %v Sets = %v", c, s, other, now)
			}
			sets++
		}
		if !hasTruth(t, c) {
			continue
		}
		must, may := mustOf(t, c)
		then, can := mustOf(t, other)
		if !holds(must, then) || !holds(can, may) {
			t.Errorf("%v: Must = %v, %v, but of %v %v, %v", c, must, may, other, then, can)
		}
		if len(then) < len(must) {
			fewer++
		}
		if len(can) > len(may) {
			more++
		}
	}
	if sets < 3000 || fewer < 100 || more < 300 {
		t.Errorf("%d sets, %d where fewer must be, %d where more may be: too few for a test", sets, fewer, more)
	}
}

// greatestClaim is a claim whose numbers and lists are all as great as can be.
func greatestClaim() (c api.BkClaim) {
	for i, n := range names()[:5] {
		c.Features = append(c.Features, feature(strings.Repeat(n, 16), 100000, 100))
		c.Causes = append(c.Causes, cause(strings.Repeat(n, 16), 44, 50, 20, 20-i, -20+3*i, 19-i*i, 20-9*i))
	}
	truth := []int{50, 0, 44, 47, 50}
	for i := range 8 {
		c.Measures = append(c.Measures, was(i%5, length(c, truth, i%5)+100-25*i))
	}
	return c
}

// P1: the greatest claims, and those with the most truths.
func TestTheGreatest(t *testing.T) {
	c := greatestClaim()
	bare, exact, off := clone(c), clone(c), clone(c)
	bare.Measures = nil
	for i := range exact.Features {
		exact.Features[i].Err = 0
		exact.Measures[i].Shown = length(c, []int{50, 0, 44, 47, 50}, i)
	}
	exact.Measures = exact.Measures[:5]
	for i := range off.Measures {
		off.Measures[i].Shown = 200000 - i
	}
	for i, c := range []api.BkClaim{c, bare, exact, off} {
		if checkAll(t, "the greatest", c) != (i < 3) {
			t.Errorf("%d: truths agree, or do not", i)
		}
		list, _ := wrong(c)
		checkWrong(t, "the greatest", c, list, api.OK)
		if i < 3 {
			f, left, _ := ask(c, truths(c))
			checkAsk(t, "the greatest", c, f, left, api.OK)
		}
	}
	least := api.BkClaim{Features: []api.BkFeature{feature("a", 1, 0)}}
	for i := range 5 {
		least.Causes = append(least.Causes, cause(names()[i], 44, 50, -20))
	}
	checkAll(t, "the least", least)
	checkValue(t, "the least", least, 0, span(1-5*50*20, 1), api.OK)
	checkAsk(t, "the least", least, 0, 10, api.OK)
}

// callAll calls all functions, and reports whether there is no error in the claim.
func callAll(c api.BkClaim, cause, feature int) bool {
	back.Sets(c)
	back.Must(c)
	back.Amount(c, cause)
	back.Value(c, feature)
	back.Plainest(c)
	back.Wrong(c)
	back.Ask(c)
	_, _, e := back.Check(c)
	return e == api.OK
}

// P1, P12.15: any arguments are accepted.
func TestAnyArguments(t *testing.T) {
	d := dice(12)
	odd := []int{small, small + 1, -1000, -21, -20, -1, 0, 0, 1, 1, 2, 3, 5, 20, 21, 50, 51, 100, 101, 1000, 100000, 100001, 200000, 200001, 1 << 32, big - 1, big}
	pick := func() int { return odd[d.roll(len(odd))] }
	right := 0
	for range 8000 {
		c := sample(was(2, 50))
		for range d.roll(3) {
			f, k, m := &c.Features[d.roll(3)], &c.Causes[d.roll(3)], &c.Measures[d.roll(3)]
			numbers := []*int{&f.Nominal, &f.Err, &k.Amount.Lo, &k.Amount.Hi, &k.Per[d.roll(3)], &m.Feature, &m.Shown}
			switch n := d.roll(len(numbers) + 3); n {
			default:
				*numbers[n] = pick()
			case 7:
				c.Features = append(c.Features, feature([]string{"top", "", "wide", "\xff"}[d.roll(4)], pick(), pick()))
			case 8:
				c.Causes = append(c.Causes, cause([]string{"glue", "", "worn", "\xff"}[d.roll(4)], pick(), pick(), pick(), pick(), pick()))
			case 9:
				c.Measures = append(c.Measures, was(pick(), pick()))
			}
		}
		if callAll(c, d.one(0, 1, pick()), d.one(0, 1, pick())) {
			right++
			checkAll(t, "odd numbers", c)
		} else {
			_, _, e := back.Check(c)
			checkErrors(t, "odd numbers", c, e)
		}
	}
	if right < 2000 || right > 6000 {
		t.Errorf("%d without an error: too few for a test, or too many", right)
	}
	callAll(api.BkClaim{}, 0, 0)
}

// P12.15: no argument is modified.
func TestArguments(t *testing.T) {
	d := dice(13)
	for range 1000 {
		// Each list has room behind it, where nothing may be written.
		c := d.any()
		for i := range c.Causes {
			c.Causes[i].Per = append(c.Causes[i].Per, 99)
		}
		c.Features, c.Causes, c.Measures = append(c.Features, feature("y", 7, 7)), append(c.Causes, cause("y", 7, 7)), append(c.Measures, was(7, 7))
		before := clone(c)
		less := api.BkClaim{Features: c.Features[:len(c.Features)-1], Causes: slices.Clone(c.Causes[:len(c.Causes)-1]), Measures: c.Measures[:len(c.Measures)-1]}
		for i := range less.Causes {
			less.Causes[i].Per = less.Causes[i].Per[:len(less.Features)]
		}
		if !callAll(less, 0, 0) {
			t.Errorf("%v: an error", less)
		}
		if !equal(c, before) {
			t.Errorf("%v is now %v", before, c)
		}
	}
}

// P12.15: a result is new memory, and nothing is kept between calls.
func TestMemory(t *testing.T) {
	c := sample(was(2, 47))
	for range 2 {
		sets := setsOf(t, c)
		if !sameLists(sets, [][]int{{0, 1}}) {
			t.Fatalf("Sets = %v", sets)
		}
		must, may := mustOf(t, c)
		wrong := wrongOf(t, more(c, was(0, 0)))
		for i, list := range [][]int{must, may, plainestOf(t, c), wrong, sets[0]} {
			if want := [][]int{{0, 1}, {0, 1, 2}, {2, 1, 0}, {3}, {0, 1}}[i]; !slices.Equal(list, want) {
				t.Fatalf("%d: %v, not %v", i, list, want)
			}
			for k := range list {
				list[k] = 99
			}
		}
		if !equal(c, sample(was(2, 47))) {
			t.Errorf("a result shares memory: %v", c)
		}
	}
}
