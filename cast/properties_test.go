package cast_test

import (
	"math"
	"slices"
	"testing"

	"hachure/api"
	"hachure/cast"
)

// sizesOf returns what Sizes does for each cast, without an error.
func sizesOf(t *testing.T, s api.CaShop, seen []api.CaSeen) known {
	t.Helper()
	k := known{sizes: map[api.CaPlace]api.Span{}}
	for _, p := range casts(s) {
		size, e := cast.Sizes(s, seen, p)
		if e != api.OK {
			t.Fatalf("Sizes of %v, %v, %v = %v, %d", s, seen, p, size, e)
		}
		k.sizes[p] = size
	}
	shrinks, e := cast.Shrinks(s, seen)
	if e != api.OK {
		t.Fatalf("Shrinks of %v, %v = %v, %d", s, seen, shrinks, e)
	}
	k.shrinks = shrinks
	return k
}

// fitsOf returns what Fits does for each piece, without an error.
func fitsOf(t *testing.T, s api.CaShop, seen []api.CaSeen, order []api.Span) (fits [][]api.CaPlace) {
	t.Helper()
	for _, piece := range order {
		l, e := cast.Fits(s, seen, piece)
		if e != api.OK {
			t.Fatalf("Fits of %v, %v, %v = %v, %d", s, seen, piece, l, e)
		}
		fits = append(fits, l)
	}
	return fits
}

// planOf returns what Plan does, and whether there is any.
func planOf(t *testing.T, s api.CaShop, seen []api.CaSeen, order []api.Span) (plan []api.CaPlace, moulds []int, is bool) {
	t.Helper()
	plan, moulds, e := cast.Plan(s, seen, order)
	if e != api.OK && e != api.ErrZero {
		t.Fatalf("Plan of %v, %v, %v = %v, %v, %d", s, seen, order, plan, moulds, e)
	}
	return plan, moulds, e == api.OK
}

// someOf returns what Some does, without an error.
func someOf(t *testing.T, s api.CaShop, seen []api.CaSeen, order []api.Span) []int {
	t.Helper()
	l, e := cast.Some(s, seen, order)
	if e != api.OK {
		t.Fatalf("Some of %v, %v, %v = %v, %d", s, seen, order, l, e)
	}
	return l
}

// P7.6: any truth is among what is told of what was measured in it.
func TestEveryTruth(t *testing.T) {
	d := dice(3)
	for range 1500 {
		s := d.any()
		is := d.truth(s)
		seen := d.seen(s, is, d.roll(7), d.roll(6))
		k := sizesOf(t, s, seen)
		if !slices.Contains(k.shrinks, is[0]) || !slices.IsSorted(k.shrinks) {
			t.Errorf("%v, %v: Shrinks = %v, not %d", s, seen, k.shrinks, is[0])
		}
		for p, size := range k.sizes {
			if !has(size, is.size(p)) {
				t.Errorf("%v, %v: Sizes of %v = %v, not %d", s, seen, p, size, is.size(p))
			}
		}
	}
}

// P7.7: with a further cast of either end there is a truth; with one beyond it there is none.
func TestReached(t *testing.T) {
	d := dice(4)
	for range 400 {
		s := d.any()
		seen := d.seen(s, d.truth(s), d.roll(6), 3)
		for p, size := range sizesOf(t, s, seen).sizes {
			for _, o := range []struct {
				further api.Span
				e       api.Errno
			}{{span(size.Lo, size.Lo), api.OK}, {span(size.Hi, size.Hi), api.OK}, {span(0, size.Lo-1), api.ErrDown}, {span(size.Hi+1, 20000), api.ErrDown}} {
				if o.further.Hi > 20000 || o.further.Lo > 20000 {
					continue
				}
				more := append(slices.Clone(seen), was(p.Mould, p.Cast, o.further.Lo, o.further.Hi))
				if l, e := cast.Shrinks(s, more); e != o.e {
					t.Errorf("%v, %v: Sizes of %v = %v; with %v: %v, %d", s, seen, p, size, o.further, l, e)
				}
			}
		}
	}
}

// P7.8: in any truth that agrees each cast that fits has a size of the piece; each other one has none in some truth.
func TestFitting(t *testing.T) {
	d := dice(5)
	for range 300 {
		s := d.small()
		seen := d.seen(s, d.truth(s), d.roll(7), 3)
		pieces := d.order(sizesOf(t, s, seen), s, 3)
		fits := fitsOf(t, s, seen, pieces)
		var bad [3][]api.CaPlace
		for is := range truths(s, seen) {
			for _, p := range casts(s) {
				for i, piece := range pieces {
					if !has(piece, is.size(p)) && !slices.Contains(bad[i], p) {
						bad[i] = append(bad[i], p)
					}
				}
			}
		}
		for i, l := range fits {
			for _, p := range casts(s) {
				if slices.Contains(l, p) == slices.Contains(bad[i], p) {
					t.Errorf("%v, %v: Fits of %v = %v; %v fails in %v", s, seen, pieces[i], l, p, bad[i])
				}
			}
		}
	}
}

// P7.9: a plan has no cast twice, none that there is not, and in any truth that agrees sizes that were ordered.
func TestPlanned(t *testing.T) {
	d := dice(6)
	many := 0
	for range 2000 {
		s := d.any()
		is := d.truth(s)
		seen := d.seen(s, is, d.roll(7), 3)
		pieces := d.order(sizesOf(t, s, seen), s, d.from(1, 6))
		plan, moulds, found := planOf(t, s, seen, pieces)
		if !found {
			continue
		}
		many++
		if len(plan) != len(pieces) || len(different(plan)) != len(plan) || !slices.Equal(moulds, used(plan)) {
			t.Errorf("%v, %v, %v: Plan = %v, %v", s, seen, pieces, plan, moulds)
		}
		for i, p := range plan {
			if !slices.Contains(casts(s), p) || !has(pieces[i], is.size(p)) {
				t.Errorf("%v, %v, %v: Plan = %v; but %v", s, seen, pieces, plan, is)
			}
		}
	}
	if many < 500 {
		t.Errorf("%d plans: too few for a test", many)
	}
}

// P7.5, P7.10: of fewer moulds there is no plan; of the first ones of as many, the plan is the first one.
func TestNoFewerMoulds(t *testing.T) {
	d := dice(7)
	found := [5]int{}
	for range 2000 {
		s := d.any()
		seen := d.seen(s, d.truth(s), d.roll(7), 3)
		pieces := d.order(sizesOf(t, s, seen), s, d.from(1, 6))
		fits := fitsOf(t, s, seen, pieces)
		plan, moulds, is := planOf(t, s, seen, pieces)
		found[len(moulds)]++
		for set := range 1 << len(s.Moulds) {
			can := planned(fits, set)
			if can[len(can)-1] && (!is || before(numbers(set), moulds)) {
				t.Errorf("%v, %v, %v: Plan = %v, %v; but %v do", s, seen, pieces, plan, moulds, numbers(set))
			}
		}
		if is {
			checkFirst(t, fits, plan, moulds)
		}
	}
	if slices.Min(found[:3]) < 100 || found[3] < 10 {
		t.Errorf("%v: too few for a test", found)
	}
}

// checkFirst checks that no plan of some moulds is before another one: with those casts that the pieces before one have,
// and any cast that is before its own, the pieces behind it cannot all have one.
func checkFirst(t *testing.T, fits [][]api.CaPlace, plan []api.CaPlace, moulds []int) {
	t.Helper()
	for i, p := range plan {
		for _, earlier := range fits[i] {
			if earlier == p {
				break
			}
			if slices.Contains(plan[:i], earlier) || !slices.Contains(moulds, earlier.Mould) {
				continue
			}
			can := planned(without(fits[i+1:], append(slices.Clone(plan[:i]), earlier)), setOf(moulds))
			if can[len(can)-1] {
				t.Errorf("%v: Plan = %v, but %v does for %d", fits, plan, earlier, i)
			}
		}
	}
}

// without returns lists of casts without some casts.
func without(fits [][]api.CaPlace, casts []api.CaPlace) (left [][]api.CaPlace) {
	for _, l := range fits {
		left = append(left, slices.DeleteFunc(slices.Clone(l), func(p api.CaPlace) bool { return slices.Contains(casts, p) }))
	}
	return left
}

// P7.11, P7.12: what lacks casts, or else a plan; as many as can be for which there is a plan.
func TestLackingAndSome(t *testing.T) {
	d := dice(8)
	lack := [7]int{}
	for range 2000 {
		s := d.any()
		seen := d.seen(s, d.truth(s), d.roll(7), 3)
		pieces := d.order(sizesOf(t, s, seen), s, d.from(1, 6))
		fits := fitsOf(t, s, seen, pieces)
		l, e := cast.Lacks(s, seen, pieces)
		lack[len(l)]++
		if _, _, is := planOf(t, s, seen, pieces); is != (e == api.ErrNone) {
			t.Errorf("%v, %v, %v: Lacks = %v, %d, but a plan: %v", s, seen, pieces, l, e, is)
		}
		if all := lacking(fits); e == api.OK && !slices.Equal(l, all[0]) || e != api.OK && len(all) > 0 {
			t.Errorf("%v, %v, %v: Lacks = %v, %d, not %v", s, seen, pieces, l, e, all)
		}
		some := someOf(t, s, seen, pieces)
		if !slices.Equal(some, most(fits)[0]) || (len(some) == len(pieces)) != (e == api.ErrNone) {
			t.Errorf("%v, %v, %v: Some = %v, not %v", s, seen, pieces, some, most(fits))
		}
		if len(some) == 0 {
			continue
		}
		var left []api.Span
		for _, i := range some {
			left = append(left, pieces[i])
		}
		if plan, _, is := planOf(t, s, seen, left); !is {
			t.Errorf("%v, %v, %v: Some = %v, but no plan: %v", s, seen, pieces, some, plan)
		}
		checkSome(t, "what is left", s, seen, left, numbers(1<<len(some)-1), api.OK)
		checkLacks(t, "what is left", s, seen, left, nil, api.ErrNone)
	}
	if slices.Min(lack[:5]) < 15 {
		t.Errorf("%v: too few for a test", lack)
	}
}

// P7.13: one more cast that is seen.
func TestOneMore(t *testing.T) {
	d := dice(9)
	narrower, more, fewer := 0, 0, 0
	for range 1500 {
		s := d.any()
		is := d.truth(s)
		seen := d.seen(s, is, d.roll(6), 3)
		further := append(slices.Clone(seen), d.seen(s, is, 1, 2)...)
		k, after := sizesOf(t, s, seen), sizesOf(t, s, further)
		for p, size := range k.sizes {
			if !inside(size, after.sizes[p]) {
				t.Errorf("%v, %v: Sizes of %v = %v; %v: %v", s, seen, p, size, further, after.sizes[p])
			}
			if size != after.sizes[p] {
				narrower++
			}
		}
		pieces := d.order(k, s, d.from(1, 6))
		now := fitsOf(t, s, further, pieces)
		for i, l := range fitsOf(t, s, seen, pieces) {
			if slices.ContainsFunc(l, func(p api.CaPlace) bool { return !slices.Contains(now[i], p) }) {
				t.Errorf("%v, %v, %v: Fits = %v; %v: %v", s, seen, pieces[i], l, further, now[i])
			}
			more += len(now[i]) - len(l)
		}
		_, moulds, is1 := planOf(t, s, seen, pieces)
		if _, less, is2 := planOf(t, s, further, pieces); is1 && (!is2 || len(less) > len(moulds)) {
			t.Errorf("%v, %v, %v: Plan uses %v; %v: %v", s, seen, pieces, moulds, further, less)
		} else if len(less) < len(moulds) {
			fewer++
		}
	}
	if narrower < 1000 || more < 500 || fewer < 10 {
		t.Errorf("%d narrower, %d more that fit, %d with fewer moulds: too few for a test", narrower, more, fewer)
	}
}

// P7.14: the next cast of a mould, and a wider piece.
func TestLarger(t *testing.T) {
	d := dice(10)
	for range 1500 {
		s := d.any()
		seen := d.seen(s, d.truth(s), d.roll(7), 3)
		k := sizesOf(t, s, seen)
		for p, size := range k.sizes {
			if next, is := k.sizes[at(p.Mould, p.Cast+1)]; is && (next.Lo < size.Lo || next.Hi < size.Hi) {
				t.Errorf("%v, %v: Sizes of %v = %v, and then %v", s, seen, p, size, next)
			}
		}
		pieces := d.order(k, s, 4)
		var wider []api.Span
		for _, piece := range pieces {
			wider = append(wider, span(max(0, piece.Lo-d.roll(9)), min(20000, piece.Hi+d.roll(9))))
		}
		now := fitsOf(t, s, seen, wider)
		for i, l := range fitsOf(t, s, seen, pieces) {
			if slices.ContainsFunc(l, func(p api.CaPlace) bool { return !slices.Contains(now[i], p) }) {
				t.Errorf("%v, %v: Fits of %v = %v; of %v: %v", s, seen, pieces[i], l, wider[i], now[i])
			}
		}
	}
}

// P7.15: what is seen in another order, pieces in another order, and a piece that is left out.
func TestOtherOrder(t *testing.T) {
	d := dice(11)
	many := 0
	for range 1200 {
		s := d.any()
		seen := d.odd(s, 6)
		other := shuffled(&d, seen)
		shrinks, e := cast.Shrinks(s, seen)
		checkShrinks(t, "another order", s, other, shrinks, e)
		if e != api.OK {
			continue
		}
		k := sizesOf(t, s, seen)
		for p, size := range k.sizes {
			checkSizes(t, "another order", s, other, p, size, api.OK)
		}
		pieces := d.order(k, s, d.from(1, 6))
		for i, l := range fitsOf(t, s, seen, pieces) {
			checkFits(t, "another order", s, other, pieces[i], l, api.OK)
		}
		plan, moulds, e := cast.Plan(s, seen, pieces)
		checkPlan(t, "another order", s, other, pieces, plan, moulds, e)
		l, f := cast.Lacks(s, seen, pieces)
		checkLacks(t, "another order", s, other, pieces, l, f)
		checkSome(t, "another order", s, other, pieces, someOf(t, s, seen, pieces), api.OK)
		if e != api.OK {
			continue
		}
		many++
		if _, m, is := planOf(t, s, seen, shuffled(&d, pieces)); !is || !slices.Equal(m, moulds) {
			t.Errorf("%v, %v, %v: Plan uses %v; in another order: %v", s, seen, pieces, moulds, m)
		}
		if len(pieces) == 1 {
			continue
		}
		at := d.roll(len(pieces))
		if _, m, is := planOf(t, s, seen, slices.Delete(slices.Clone(pieces), at, at+1)); !is || len(m) > len(moulds) {
			t.Errorf("%v, %v, %v: Plan uses %v; without %d: %v", s, seen, pieces, moulds, at, m)
		}
	}
	if many < 300 {
		t.Errorf("%d plans: too few for a test", many)
	}
}

// P1: the greatest cases are gone through.
func TestTheGreatest(t *testing.T) {
	s := api.CaShop{Shrink: span(94, 100)}
	var seen []api.CaSeen
	for i := range 4 {
		s.Moulds = append(s.Moulds, mould(string(rune('a'+i)), span(19988, 20000), span(17, 20), 8))
		seen = append(seen, was(i, 7, 0, 20000))
	}
	all, six := span(0, 20000), slices.Repeat(order(0, 20000), 6)
	checkSizes(t, "the greatest", s, seen, at(3, 7), span(18097, 18247), api.OK)
	checkShrinks(t, "the greatest", s, seen, []int{94, 95, 96, 97, 98, 99, 100}, api.OK)
	checkFits(t, "the greatest", s, seen, all, casts(s), api.OK)
	checkPlan(t, "the greatest", s, seen, six, places(0, 0, 0, 1, 0, 2, 0, 3, 0, 4, 0, 5), []int{0}, api.OK)
	checkLacks(t, "the greatest", s, seen, six, nil, api.ErrNone)
	checkSome(t, "the greatest", s, seen, six, []int{0, 1, 2, 3, 4, 5}, api.OK)
	none := slices.Repeat(order(0, 18000), 6)
	checkPlan(t, "the greatest, but none fits", s, seen, none, nil, nil, api.ErrZero)
	checkLacks(t, "the greatest, but none fits", s, seen, none, []int{0}, api.OK)
	checkSome(t, "the greatest, but none fits", s, seen, none, nil, api.OK)
}

// P1, P7.16: any arguments are accepted.
func TestAnyArguments(t *testing.T) {
	d := dice(12)
	odd := []int{math.MinInt, math.MinInt + 1, -2, -1, 0, 0, 1, 1, 2, 2, 3, 4, 6, 8, 9, 12, 20, 100, 101, 990, 1000, 20000, 20001, math.MaxInt - 1, math.MaxInt}
	pick := func() int { return odd[d.roll(len(odd))] }
	any := func() api.Span { return span(pick(), pick()) }
	names := []string{"", "hill", "a", "b", "-", "\xff\xfe", "A"}
	good, reached := []api.Span{span(990, 1000), span(0, 20000), span(988, 992), span(998, 1000)}, 0
	for range 5000 {
		s, seen, order := hills(), append(a()[:d.roll(2)], d.seen(hills(), d.truth(hills()), d.roll(3), 5)...), shuffled(&d, good)[:d.roll(5)]
		for range d.roll(3) {
			m := &s.Moulds[d.roll(len(s.Moulds))]
			switch d.roll(8) {
			case 0:
				m.Name = names[d.roll(len(names))]
			case 1:
				m.Size = any()
			case 2:
				m.Wear = any()
			case 3:
				m.Casts = pick()
			case 4:
				s.Shrink = any()
			case 5:
				seen = append(seen, api.CaSeen{Mould: pick(), Cast: pick(), Size: any()})
			case 6:
				order = append(order, any())
			default:
				s.Moulds = append(s.Moulds, api.CaMould{Name: names[d.roll(len(names))], Size: any(), Wear: any(), Casts: pick()})
			}
		}
		if callAll(s, seen, order, at(pick(), pick()), any()) {
			reached++
		}
		if _, _, e := cast.Check(s); e != api.OK {
			checkErrors(t, "odd numbers", s, seen, e)
		} else if _, e := cast.CheckSeen(s, seen); e != api.OK {
			checkErrors(t, "odd numbers", s, seen, e)
		}
	}
	if reached < 500 {
		t.Errorf("%d with a plan: too few for a test", reached)
	}
}

// callAll calls all functions, and reports whether there is a plan.
func callAll(s api.CaShop, seen []api.CaSeen, order []api.Span, at api.CaPlace, piece api.Span) bool {
	cast.Check(s)
	cast.CheckSeen(s, seen)
	cast.Sizes(s, seen, at)
	cast.Shrinks(s, seen)
	cast.Fits(s, seen, piece)
	cast.Lacks(s, seen, order)
	cast.Some(s, seen, order)
	_, _, e := cast.Plan(s, seen, order)
	return e == api.OK
}

// P7.16: no argument is modified.
func TestArguments(t *testing.T) {
	d := dice(13)
	for range 300 {
		// Each list has room behind it, where nothing may be written.
		s := d.any()
		seen := append(d.seen(s, d.truth(s), d.roll(6), 3), was(7, 7, 7, 7))
		order := append(d.order(known{sizes: map[api.CaPlace]api.Span{at(0, 0): span(900, 1000)}}, exact(900, 1), d.from(1, 6)), span(7, 7))
		moulds := append(s.Moulds, mould("z", span(7, 7), span(7, 7), 7))
		before, beforeSeen, beforeOrder := slices.Clone(moulds), slices.Clone(seen), slices.Clone(order)
		s.Moulds = moulds[: len(moulds)-1 : len(moulds)]
		callAll(s, seen[:len(seen)-1], order[:len(order)-1], at(0, 0), order[0])
		if !slices.Equal(moulds, before) || !slices.Equal(seen, beforeSeen) || !slices.Equal(order, beforeOrder) {
			t.Errorf("%v, %v, %v are %v, %v, %v", before, beforeSeen, beforeOrder, moulds, seen, order)
		}
	}
}

// P7.16: a result is new memory.
func TestMemory(t *testing.T) {
	s, seen, pieces := hills(), a(), order(990, 1000, 998, 999, 0, 5)
	for range 2 {
		shrinks := sizesOf(t, s, seen).shrinks
		fits := fitsOf(t, s, seen, pieces[:2])
		plan, moulds, _ := planOf(t, s, seen, pieces[:2])
		lacks, _ := cast.Lacks(s, seen, pieces)
		some := someOf(t, s, seen, pieces)
		lists := [][]int{shrinks, moulds, lacks, some}
		want := [][]int{{12}, {1}, {2}, {0, 1}}
		casts := [][]api.CaPlace{fits[0], fits[1], plan}
		wantCasts := [][]api.CaPlace{places(0, 1, 0, 2, 0, 3, 1, 0, 1, 1), places(1, 0, 1, 1), places(1, 0, 1, 1)}
		if !slices.EqualFunc(lists, want, slices.Equal) || !slices.EqualFunc(casts, wantCasts, slices.Equal) {
			t.Fatalf("later results changed: %v, %v", lists, casts)
		}
		for i, list := range lists {
			list[0] = 99
			if !slices.EqualFunc(lists[i+1:], want[i+1:], slices.Equal) || !slices.EqualFunc(casts, wantCasts, slices.Equal) {
				t.Errorf("results share memory: %v, %v", lists, casts)
			}
		}
		for i, list := range casts {
			list[0] = at(99, 99)
			if !slices.EqualFunc(casts[i+1:], wantCasts[i+1:], slices.Equal) {
				t.Errorf("results share memory: %v", casts)
			}
		}
		if !slices.Equal(s.Moulds, hills().Moulds) || !slices.Equal(seen, a()) || !slices.Equal(pieces, order(990, 1000, 998, 999, 0, 5)) {
			t.Errorf("a result shares memory: %v, %v, %v", s, seen, pieces)
		}
	}
}
