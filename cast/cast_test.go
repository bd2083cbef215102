package cast_test

import (
	"math"
	"slices"
	"strings"
	"testing"

	"hachure/api"
	"hachure/cast"
)

// fault is a change of the sample, and what Check says of it.
type fault struct {
	what     string
	change   func(s *api.CaShop)
	part, at int
	e        api.Errno
}

// of returns a change of one mould.
func of(i int, change func(m *api.CaMould)) func(s *api.CaShop) {
	return func(s *api.CaShop) { change(&s.Moulds[i]) }
}

// shrink returns a change of Shrink.
func shrink(lo, hi int) func(s *api.CaShop) {
	return func(s *api.CaShop) { s.Shrink = span(lo, hi) }
}

// size returns a change of the Size of one mould.
func size(i, lo, hi int) func(s *api.CaShop) {
	return of(i, func(m *api.CaMould) { m.Size = span(lo, hi) })
}

// wear returns a change of the Wear of one mould.
func wear(i, lo, hi int) func(s *api.CaShop) {
	return of(i, func(m *api.CaMould) { m.Wear = span(lo, hi) })
}

// gives returns a change of the Casts of one mould.
func gives(i, casts int) func(s *api.CaShop) {
	return of(i, func(m *api.CaMould) { m.Casts = casts })
}

// shopFaults are those of Shrink, and of how many moulds there are.
func shopFaults() []fault {
	big, small := math.MaxInt, math.MinInt
	none := func(s *api.CaShop) { s.Moulds = nil }
	moulds := func(many int) func(s *api.CaShop) {
		return func(s *api.CaShop) { s.Moulds = exact(make([]int, 2*many)...).Moulds }
	}
	both := func(a, b func(s *api.CaShop)) func(s *api.CaShop) {
		return func(s *api.CaShop) {
			a(s)
			b(s)
		}
	}
	return []fault{
		{"the sample", func(s *api.CaShop) {}, 0, 0, api.OK},
		{"a Shrink below 0", shrink(-1, 5), 1, 0, api.ErrRange},
		{"a Shrink too great", shrink(95, 101), 1, 0, api.ErrRange},
		{"a Shrink too great, Lo above Hi", shrink(101, 100), 1, 0, api.ErrRange},
		{"a Shrink below 0, Lo above Hi", shrink(0, -1), 1, 0, api.ErrRange},
		{"a Shrink of any int", shrink(small, big), 1, 0, api.ErrRange},
		{"a Shrink of any int, turned", shrink(big, small), 1, 0, api.ErrRange},
		{"a Shrink with Lo above Hi", shrink(6, 5), 1, 0, api.ErrArg},
		{"a Shrink far turned", shrink(100, 0), 1, 0, api.ErrArg},
		{"a Shrink too wide", shrink(3, 10), 1, 0, api.ErrArg},
		{"the widest Shrink", shrink(3, 9), 0, 0, api.OK},
		{"no Shrink", shrink(0, 0), 0, 0, api.OK},
		{"the greatest Shrink", shrink(94, 100), 0, 0, api.OK},
		{"no moulds", none, 1, 0, api.ErrLong},
		{"no moulds, but a list", func(s *api.CaShop) { s.Moulds = s.Moulds[:0] }, 1, 0, api.ErrLong},
		{"five moulds, all wrong", moulds(5), 1, 0, api.ErrLong},
		{"no moulds, and a Shrink too wide", both(none, shrink(3, 10)), 1, 0, api.ErrArg},
		{"no moulds, and a Shrink too great", both(none, shrink(3, 101)), 1, 0, api.ErrRange},
		{"a wrong mould, and a Shrink too wide", both(size(0, 0, 0), shrink(3, 10)), 1, 0, api.ErrArg},
		{"four wrong moulds", moulds(4), 2, 0, api.ErrRange},
		{"four moulds", func(s *api.CaShop) { s.Moulds = exact(1, 8, 2, 8, 3, 8, 4, 8).Moulds }, 0, 0, api.OK},
		{"one mould", func(s *api.CaShop) { s.Moulds = s.Moulds[:1] }, 0, 0, api.OK},
	}
}

// nameFaults are those of names.
func nameFaults() []fault {
	named := func(i int, name string) func(s *api.CaShop) {
		return of(i, func(m *api.CaMould) { m.Name = name })
	}
	worse := func(i int, name string) func(s *api.CaShop) {
		return of(i, func(m *api.CaMould) { *m = mould(name, span(0, 99), span(9, 0), 0) })
	}
	thrice := func(s *api.CaShop) { s.Moulds = append(s.Moulds, s.Moulds[1], s.Moulds[0]) }
	return []fault{
		{"no name, and all else wrong", worse(1, ""), 2, 1, api.ErrForm},
		{"a name with a capital", named(0, "Hill"), 2, 0, api.ErrForm},
		{"a name with a digit ahead", named(0, "1hill"), 2, 0, api.ErrForm},
		{"a name with a space", named(1, "old vale"), 2, 1, api.ErrForm},
		{"a name with a letter of another alphabet", named(1, "vål"), 2, 1, api.ErrForm},
		{"a long name", named(0, strings.Repeat("m", 17)), 2, 0, api.ErrForm},
		{"the longest name", named(0, strings.Repeat("m", 16)), 0, 0, api.OK},
		{"a name with a digit and a hyphen", named(1, "v-2"), 0, 0, api.OK},
		{"a name twice, and all else wrong", worse(1, "hill"), 2, 1, api.ErrTwice},
		{"a name twice, but the first mould is wrong", func(s *api.CaShop) {
			s.Moulds[0].Casts = 9
			s.Moulds[1].Name = "hill"
		}, 2, 0, api.ErrRange},
		{"two names twice", thrice, 2, 2, api.ErrTwice},
	}
}

// numberFaults are those of the numbers of moulds.
func numberFaults() []fault {
	big, small := math.MaxInt, math.MinInt
	return []fault{
		{"a Size of 0", size(0, 0, 1), 2, 0, api.ErrRange},
		{"a Size below 0", size(1, -1, 5), 2, 1, api.ErrRange},
		{"a Size whose Hi is 0", size(1, 1, 0), 2, 1, api.ErrRange},
		{"a Size too great", size(1, 20000, 20001), 2, 1, api.ErrRange},
		{"a Size whose Lo is too great", size(1, 20001, 20000), 2, 1, api.ErrRange},
		{"a Size of any int", size(1, small, big), 2, 1, api.ErrRange},
		{"a Size of any int, turned", size(1, big, small), 2, 1, api.ErrRange},
		{"a Size with Lo above Hi", size(0, 1001, 1000), 2, 0, api.ErrArg},
		{"a Size far turned", size(0, 20000, 1), 2, 0, api.ErrArg},
		{"a Size too wide", size(1, 1000, 1013), 2, 1, api.ErrArg},
		{"the widest Size", size(1, 1000, 1012), 0, 0, api.OK},
		{"the least Size", size(0, 1, 1), 0, 0, api.OK},
		{"the greatest Size", size(0, 20000, 20000), 0, 0, api.OK},
		{"a Wear below 0", wear(0, -1, 1), 2, 0, api.ErrRange},
		{"a Wear whose Hi is below 0", wear(0, 0, -1), 2, 0, api.ErrRange},
		{"a Wear too great", wear(1, 20, 21), 2, 1, api.ErrRange},
		{"a Wear whose Lo is too great", wear(1, 21, 20), 2, 1, api.ErrRange},
		{"a Wear of any int", wear(1, small, big), 2, 1, api.ErrRange},
		{"a Wear with Lo above Hi", wear(0, 1, 0), 2, 0, api.ErrArg},
		{"a Wear too wide", wear(1, 2, 6), 2, 1, api.ErrArg},
		{"the widest Wear", wear(1, 2, 5), 0, 0, api.OK},
		{"the greatest Wear", wear(1, 17, 20), 0, 0, api.OK},
		{"no Casts", gives(0, 0), 2, 0, api.ErrRange},
		{"Casts below 0", gives(1, -1), 2, 1, api.ErrRange},
		{"too many Casts", gives(1, 9), 2, 1, api.ErrRange},
		{"the least int as Casts", gives(1, small), 2, 1, api.ErrRange},
		{"the greatest int as Casts", gives(1, big), 2, 1, api.ErrRange},
		{"one cast", gives(0, 1), 0, 0, api.OK},
		{"the most casts", gives(0, 8), 0, 0, api.OK},
		{"a Size too wide, and too many Casts", of(0, func(m *api.CaMould) { m.Size, m.Casts = span(1, 20), 9 }), 2, 0, api.ErrRange},
		{"a Size too wide, and a Wear too great", of(0, func(m *api.CaMould) { m.Size, m.Wear = span(1, 20), span(0, 21) }), 2, 0, api.ErrRange},
		{"a Wear too wide, and a Size too great", of(0, func(m *api.CaMould) { m.Size, m.Wear = span(1, 20001), span(0, 4) }), 2, 0, api.ErrRange},
		{"the first mould decides", func(s *api.CaShop) { s.Moulds[0].Size, s.Moulds[1].Name = span(2, 1), "" }, 2, 0, api.ErrArg},
	}
}

// P7.1: each part, the order of errors, and that all other functions return the error first.
func TestCheck(t *testing.T) {
	for _, f := range slices.Concat(shopFaults(), nameFaults(), numberFaults()) {
		s := hills()
		f.change(&s)
		part, at, e := cast.Check(s)
		if part != f.part || at != f.at || e != f.e {
			t.Errorf("%s: Check = %d, %d, %d, not %d, %d, %d", f.what, part, at, e, f.part, f.at, f.e)
		}
		if f.e == api.OK {
			checkSeen(t, f.what, s, nil, 0, api.OK)
			continue
		}
		tooMany := make([]api.CaSeen, 7)
		for _, seen := range [][]api.CaSeen{nil, a(), tooMany, {was(0, 0, 5, 5), was(9, 9, 9, 0)}} {
			checkSeen(t, f.what, s, seen, 0, f.e)
			checkErrors(t, f.what, s, seen, f.e)
		}
	}
}

// checkErrors checks that each function but both that check returns an error before its own ones, and nothing else with it.
func checkErrors(t *testing.T, what string, s api.CaShop, seen []api.CaSeen, e api.Errno) {
	t.Helper()
	for _, p := range places(0, 0, -1, 0, 0, 99) {
		checkSizes(t, what, s, seen, p, api.Span{}, e)
	}
	checkShrinks(t, what, s, seen, nil, e)
	for _, piece := range order(0, 20000, -1, 0, 5, 4) {
		checkFits(t, what, s, seen, piece, nil, e)
	}
	for _, o := range [][]api.Span{nil, order(0, 20000), order(5, 4, -1, 0), make([]api.Span, 7)} {
		checkOrder(t, what, s, seen, o, e)
	}
}

// checkOrder checks that all functions with an order return an error, and nothing else with it.
func checkOrder(t *testing.T, what string, s api.CaShop, seen []api.CaSeen, order []api.Span, e api.Errno) {
	t.Helper()
	checkPlan(t, what, s, seen, order, nil, nil, e)
	checkLacks(t, what, s, seen, order, nil, e)
	checkSome(t, what, s, seen, order, nil, e)
}

func checkSeen(t *testing.T, what string, s api.CaShop, seen []api.CaSeen, at int, e api.Errno) {
	t.Helper()
	if n, f := cast.CheckSeen(s, seen); n != at || f != e {
		t.Errorf("%s: CheckSeen of %v, %v = %d, %d, not %d, %d", what, s, seen, n, f, at, e)
	}
}

func checkSizes(t *testing.T, what string, s api.CaShop, seen []api.CaSeen, at api.CaPlace, want api.Span, e api.Errno) {
	t.Helper()
	if got, f := cast.Sizes(s, seen, at); got != want || f != e {
		t.Errorf("%s: Sizes of %v, %v, %v = %v, %d, not %v, %d", what, s, seen, at, got, f, want, e)
	}
}

func checkShrinks(t *testing.T, what string, s api.CaShop, seen []api.CaSeen, want []int, e api.Errno) {
	t.Helper()
	if got, f := cast.Shrinks(s, seen); !slices.Equal(got, want) || f != e {
		t.Errorf("%s: Shrinks of %v, %v = %v, %d, not %v, %d", what, s, seen, got, f, want, e)
	}
}

func checkFits(t *testing.T, what string, s api.CaShop, seen []api.CaSeen, piece api.Span, want []api.CaPlace, e api.Errno) {
	t.Helper()
	if got, f := cast.Fits(s, seen, piece); !slices.Equal(got, want) || f != e {
		t.Errorf("%s: Fits of %v, %v, %v = %v, %d, not %v, %d", what, s, seen, piece, got, f, want, e)
	}
}

func checkPlan(t *testing.T, what string, s api.CaShop, seen []api.CaSeen, order []api.Span, plan []api.CaPlace, moulds []int, e api.Errno) {
	t.Helper()
	p, m, f := cast.Plan(s, seen, order)
	if !slices.Equal(p, plan) || !slices.Equal(m, moulds) || f != e {
		t.Errorf("%s: Plan of %v, %v, %v = %v, %v, %d, not %v, %v, %d", what, s, seen, order, p, m, f, plan, moulds, e)
	}
}

func checkLacks(t *testing.T, what string, s api.CaShop, seen []api.CaSeen, order []api.Span, want []int, e api.Errno) {
	t.Helper()
	if got, f := cast.Lacks(s, seen, order); !slices.Equal(got, want) || f != e {
		t.Errorf("%s: Lacks of %v, %v, %v = %v, %d, not %v, %d", what, s, seen, order, got, f, want, e)
	}
}

func checkSome(t *testing.T, what string, s api.CaShop, seen []api.CaSeen, order []api.Span, want []int, e api.Errno) {
	t.Helper()
	if got, f := cast.Some(s, seen, order); !slices.Equal(got, want) || f != e {
		t.Errorf("%s: Some of %v, %v, %v = %v, %d, not %v, %d", what, s, seen, order, got, f, want, e)
	}
}

// The examples of the chapter, and the seventh one of the document.
func TestExamples(t *testing.T) {
	s := hills()
	checkSizes(t, "S", s, nil, at(0, 0), span(988, 992), api.OK)
	checkSizes(t, "S", s, nil, at(0, 3), span(994, 1001), api.OK)
	checkSizes(t, "S", s, nil, at(1, 1), span(998, 1000), api.OK)
	checkSizes(t, "S with A", s, a(), at(0, 0), span(988, 990), api.OK)
	checkSizes(t, "S with A", s, a(), at(0, 3), span(994, 999), api.OK)
	checkSizes(t, "S with A", s, a(), at(1, 1), span(998, 998), api.OK)
	checkShrinks(t, "S", s, nil, []int{10, 11, 12}, api.OK)
	checkShrinks(t, "S with A", s, a(), []int{12}, api.OK)
	checkFits(t, "S", s, nil, span(990, 1000), places(0, 1, 0, 2, 1, 0, 1, 1), api.OK)
	checkFits(t, "S with A", s, a(), span(990, 1000), places(0, 1, 0, 2, 0, 3, 1, 0, 1, 1), api.OK)
	checkPlan(t, "S", s, nil, order(990, 1000, 990, 998, 998, 1000), places(0, 1, 0, 2, 1, 0), []int{0, 1}, api.OK)
	checkPlan(t, "S", s, nil, order(990, 1000, 999, 1000), nil, nil, api.ErrZero)
	checkPlan(t, "S with A", s, a(), order(990, 1000, 998, 999), places(1, 0, 1, 1), []int{1}, api.OK)
	three := order(990, 998, 992, 998, 990, 998)
	checkPlan(t, "S", s, nil, three, nil, nil, api.ErrZero)
	checkLacks(t, "S", s, nil, three, []int{0, 1, 2}, api.OK)
	checkSome(t, "S", s, nil, three, []int{0, 1}, api.OK)
	checkLacks(t, "S", s, nil, order(990, 1000, 980, 985), []int{1}, api.OK)
}

// P7.2: each error, the first cast with one, and that all other functions return it first.
func TestCheckSeen(t *testing.T) {
	big, small := math.MaxInt, math.MinInt
	good := was(0, 3, 990, 1000)
	for _, o := range []struct {
		what string
		seen []api.CaSeen
		at   int
		e    api.Errno
	}{
		{"nothing", nil, 0, api.OK},
		{"six", slices.Repeat([]api.CaSeen{good}, 6), 0, api.OK},
		{"seven", slices.Repeat([]api.CaSeen{good}, 7), 0, api.ErrLong},
		{"seven, all wrong", slices.Repeat([]api.CaSeen{was(-1, -1, -1, -1)}, 7), 0, api.ErrLong},
		{"the last cast of each mould", []api.CaSeen{good, was(1, 1, 0, 20000)}, 0, api.OK},
		{"a Mould below 0, and all else wrong", []api.CaSeen{was(-1, -1, 20001, -1)}, 0, api.ErrNone},
		{"a Mould too great", []api.CaSeen{good, was(2, 0, 5, 5)}, 1, api.ErrNone},
		{"the least int as Mould", []api.CaSeen{good, good, was(small, 0, 5, 5)}, 2, api.ErrNone},
		{"the greatest int as Mould", []api.CaSeen{good, good, was(big, 0, 5, 5)}, 2, api.ErrNone},
		{"a Cast below 0, and a Size turned", []api.CaSeen{was(0, -1, 6, 5)}, 0, api.ErrNone},
		{"a Cast too great", []api.CaSeen{was(0, 4, 5, 5)}, 0, api.ErrNone},
		{"a Cast that the other mould has", []api.CaSeen{good, was(1, 2, 5, 5)}, 1, api.ErrNone},
		{"the least int as Cast", []api.CaSeen{was(0, small, 5, 5)}, 0, api.ErrNone},
		{"the greatest int as Cast", []api.CaSeen{was(0, big, 5, 5)}, 0, api.ErrNone},
		{"a Size below 0", []api.CaSeen{good, was(0, 0, -1, 5)}, 1, api.ErrRange},
		{"a Size whose Hi is below 0", []api.CaSeen{good, was(0, 0, 0, -1)}, 1, api.ErrRange},
		{"a Size too great", []api.CaSeen{good, was(0, 0, 0, 20001)}, 1, api.ErrRange},
		{"a Size whose Lo is too great", []api.CaSeen{good, was(0, 0, 20001, 20000)}, 1, api.ErrRange},
		{"a Size of any int", []api.CaSeen{was(0, 0, big, small)}, 0, api.ErrRange},
		{"a Size with Lo above Hi", []api.CaSeen{good, good, good, was(0, 0, 6, 5)}, 3, api.ErrArg},
		{"the widest Size", []api.CaSeen{was(0, 0, 0, 20000)}, 0, api.OK},
		{"the least Size", []api.CaSeen{was(0, 0, 0, 0)}, 0, api.OK},
		{"the greatest Size", []api.CaSeen{was(0, 0, 20000, 20000)}, 0, api.OK},
		{"the first one decides", []api.CaSeen{good, was(0, 0, 6, 5), was(9, 0, 6, 5)}, 1, api.ErrArg},
		{"the first one decides again", []api.CaSeen{good, was(0, 9, 6, 5), was(0, 0, -1, 5)}, 1, api.ErrNone},
		{"the last one", append(slices.Repeat([]api.CaSeen{good}, 5), was(0, 0, -1, 5)), 5, api.ErrRange},
	} {
		checkSeen(t, o.what, hills(), o.seen, o.at, o.e)
		if o.e != api.OK {
			checkErrors(t, o.what, hills(), o.seen, o.e)
		}
	}
}

// P7.3: what is no cast, whatever agrees.
func TestNoSuchCast(t *testing.T) {
	none := places(-1, 0, 2, 0, 0, -1, 0, 4, 1, 2, 1, 3, math.MinInt, 0, math.MaxInt, 0, 0, math.MinInt, 0, math.MaxInt)
	for _, p := range none {
		checkSizes(t, "nothing seen", hills(), nil, p, api.Span{}, api.ErrNone)
		checkSizes(t, "no truth", hills(), contrary(), p, api.Span{}, api.ErrNone)
	}
	for _, p := range places(0, 0, 0, 3, 1, 0, 1, 1) {
		checkSizes(t, "no truth", hills(), contrary(), p, api.Span{}, api.ErrDown)
	}
	checkShrinks(t, "no truth", hills(), contrary(), nil, api.ErrDown)
}

// P7.3: by hand: what is rounded, the greatest and the least shops, and casts that only together say more.
func TestSizesByHand(t *testing.T) {
	one := func(shrink, size, wear api.Span, casts int) api.CaShop {
		return api.CaShop{Shrink: shrink, Moulds: []api.CaMould{mould("a", size, wear, casts)}}
	}
	two := one(span(10, 12), span(1000, 1000), span(0, 0), 1)
	two.Moulds = append(two.Moulds, mould("b", span(2000, 2000), span(0, 0), 1))
	worn := one(span(0, 0), span(100, 102), span(2, 5), 8)
	for _, o := range []struct {
		what    string
		s       api.CaShop
		seen    []api.CaSeen
		at      api.CaPlace
		want    api.Span
		shrinks []int
	}{
		{"nothing shrinks", one(span(0, 0), span(999, 999), span(0, 0), 1), nil, at(0, 0), span(999, 999), []int{0}},
		{"less than one", one(span(1, 1), span(999, 999), span(0, 0), 1), nil, at(0, 0), span(999, 999), []int{1}},
		{"just one", one(span(1, 1), span(1000, 1000), span(0, 0), 1), nil, at(0, 0), span(999, 999), []int{1}},
		{"rounded down", one(span(100, 100), span(19, 19), span(0, 0), 1), nil, at(0, 0), span(18, 18), []int{100}},
		{"not rounded", one(span(100, 100), span(20, 20), span(0, 0), 1), nil, at(0, 0), span(18, 18), []int{100}},
		{"the least size", one(span(94, 100), span(1, 1), span(0, 0), 1), nil, at(0, 0), span(1, 1), []int{94, 95, 96, 97, 98, 99, 100}},
		{"beyond what can be measured", one(span(0, 0), span(20000, 20000), span(20, 20), 8), nil, at(0, 7), span(20140, 20140), []int{0}},
		{"the least and the greatest", one(span(0, 6), span(19988, 20000), span(17, 20), 8), nil, at(0, 7), span(19987, 20140), []int{0, 1, 2, 3, 4, 5, 6}},
		{"worn, then shrunk", one(span(100, 100), span(95, 95), span(5, 5), 2), nil, at(0, 1), span(90, 90), []int{100}},
		{"another mould tells", two, []api.CaSeen{was(1, 0, 1978, 1978)}, at(0, 0), span(989, 989), []int{11}},
		{"the lower end alone", two, []api.CaSeen{was(1, 0, 1978, 20000)}, at(0, 0), span(989, 990), []int{10, 11}},
		{"the upper end alone", two, []api.CaSeen{was(1, 0, 0, 1978)}, at(0, 0), span(988, 989), []int{11, 12}},
		{"both tell", two, []api.CaSeen{was(1, 0, 0, 1978), was(0, 0, 989, 990)}, at(1, 0), span(1978, 1978), []int{11}},
		{"new and worn", worn, []api.CaSeen{was(0, 0, 101, 101), was(0, 2, 107, 108)}, at(0, 7), span(122, 122), []int{0}},
		{"worn alone", worn, []api.CaSeen{was(0, 2, 107, 108)}, at(0, 7), span(122, 128), []int{0}},
		{"worn alone, new", worn, []api.CaSeen{was(0, 2, 107, 108)}, at(0, 0), span(100, 102), []int{0}},
	} {
		checkSizes(t, o.what, o.s, o.seen, o.at, o.want, api.OK)
		checkShrinks(t, o.what, o.s, o.seen, o.shrinks, api.OK)
	}
	for _, seen := range [][]api.CaSeen{{was(1, 0, 1978, 1978), was(0, 0, 990, 990)}, {was(0, 0, 0, 987)}, {was(0, 0, 991, 20000)}} {
		checkSizes(t, "no truth", two, seen, at(0, 0), api.Span{}, api.ErrDown)
		checkShrinks(t, "no truth", two, seen, nil, api.ErrDown)
	}
}

// P7.3, P7.4: against all truths.
func TestAllTruths(t *testing.T) {
	d := dice(1)
	none, fewer, some := 0, 0, 0
	for range 1200 {
		s := d.small()
		seen := d.odd(s, 6)
		k := all(s, seen)
		if len(k.shrinks) == 0 {
			none++
			for _, p := range casts(s) {
				checkSizes(t, "at random", s, seen, p, api.Span{}, api.ErrDown)
			}
			checkShrinks(t, "at random", s, seen, nil, api.ErrDown)
			checkFits(t, "at random", s, seen, span(0, 20000), nil, api.ErrDown)
			checkOrder(t, "at random", s, seen, order(0, 20000), api.ErrDown)
			continue
		}
		if len(k.shrinks) <= s.Shrink.Hi-s.Shrink.Lo {
			fewer++
		}
		for _, p := range casts(s) {
			checkSizes(t, "at random", s, seen, p, k.sizes[p], api.OK)
		}
		checkShrinks(t, "at random", s, seen, k.shrinks, api.OK)
		pieces := d.order(k, s, 6)
		for i, want := range k.fits(s, pieces) {
			if len(want) > 0 && len(want) < len(casts(s)) {
				some++
			}
			checkFits(t, "at random", s, seen, pieces[i], want, api.OK)
		}
	}
	if none < 100 || fewer < 100 || some < 1000 {
		t.Errorf("%d without a truth, %d with fewer numbers of Shrink, %d that some casts fit: too few for a test", none, fewer, some)
	}
}

// P7.4: the errors of a piece, before that no truth agrees; and ends that are just wide enough.
func TestFits(t *testing.T) {
	for _, o := range []struct {
		what  string
		piece api.Span
		e     api.Errno
	}{
		{"below 0", span(-1, 5), api.ErrRange},
		{"Hi below 0", span(0, -1), api.ErrRange},
		{"too great", span(5, 20001), api.ErrRange},
		{"Lo too great", span(20001, 20000), api.ErrRange},
		{"any int", span(math.MinInt, math.MaxInt), api.ErrRange},
		{"any int, turned", span(math.MaxInt, math.MinInt), api.ErrRange},
		{"turned", span(6, 5), api.ErrArg},
		{"far turned", span(20000, 0), api.ErrArg},
	} {
		checkFits(t, o.what, hills(), nil, o.piece, nil, o.e)
		checkFits(t, o.what, hills(), contrary(), o.piece, nil, o.e)
		checkOrder(t, o.what, hills(), nil, []api.Span{span(0, 20000), o.piece}, o.e)
		checkOrder(t, o.what, hills(), contrary(), []api.Span{o.piece, span(0, 20000)}, o.e)
	}
	checkFits(t, "no truth", hills(), contrary(), span(0, 20000), nil, api.ErrDown)
	s := hills()
	checkFits(t, "all", s, nil, span(0, 20000), casts(s), api.OK)
	checkFits(t, "none", s, nil, span(0, 987), nil, api.OK)
	checkFits(t, "a single size", s, nil, span(998, 998), nil, api.OK)
	checkFits(t, "a single size, with A", s, a(), span(998, 998), places(1, 0, 1, 1), api.OK)
	checkFits(t, "just wide enough", s, nil, span(988, 992), places(0, 0), api.OK)
	checkFits(t, "Lo too great by one", s, nil, span(989, 992), nil, api.OK)
	checkFits(t, "Hi too little by one", s, nil, span(988, 991), nil, api.OK)
	checkFits(t, "at 0", s, nil, span(0, 0), nil, api.OK)
	big := exact(20000, 8)
	big.Moulds[0].Wear = span(1, 1)
	checkFits(t, "beyond what can be ordered", big, nil, span(0, 20000), places(0, 0), api.OK)
}

// P7.5: how many pieces there are, the first piece with an error, and what comes before what.
func TestOrders(t *testing.T) {
	s, good, turned, far := hills(), span(990, 1000), span(6, 5), span(0, 20001)
	for _, seen := range [][]api.CaSeen{nil, contrary()} {
		checkOrder(t, "no pieces", s, seen, nil, api.ErrLong)
		checkOrder(t, "no pieces, but a list", s, seen, []api.Span{}, api.ErrLong)
		checkOrder(t, "seven pieces", s, seen, slices.Repeat([]api.Span{good}, 7), api.ErrLong)
		checkOrder(t, "seven pieces, all wrong", s, seen, slices.Repeat([]api.Span{turned}, 7), api.ErrLong)
		checkOrder(t, "the first piece decides", s, seen, []api.Span{good, turned, far}, api.ErrArg)
		checkOrder(t, "the first piece decides again", s, seen, []api.Span{good, far, turned}, api.ErrRange)
		checkOrder(t, "the last piece", s, seen, append(slices.Repeat([]api.Span{good}, 5), turned), api.ErrArg)
	}
	checkOrder(t, "no truth", s, contrary(), []api.Span{good}, api.ErrDown)
	checkOrder(t, "no truth, and no cast", s, contrary(), []api.Span{span(0, 0)}, api.ErrDown)
	six := exact(1000, 6)
	checkPlan(t, "six pieces", six, nil, slices.Repeat([]api.Span{span(0, 2000)}, 6), places(0, 0, 0, 1, 0, 2, 0, 3, 0, 4, 0, 5), []int{0}, api.OK)
}

// P7.5: by hand: which plan, which pieces that lack casts, and which pieces for which there is a plan.
func TestWhichPlan(t *testing.T) {
	for _, o := range []struct {
		what        string
		s           api.CaShop
		order       []api.Span
		plan        []api.CaPlace
		moulds      []int
		lacks, some []int
	}{
		{"one piece", exact(100, 1), order(100, 100), places(0, 0), []int{0}, nil, []int{0}},
		{"the first of two casts", exact(100, 2), order(0, 200), places(0, 0), []int{0}, nil, []int{0}},
		{"the first of two moulds", exact(100, 1, 100, 1), order(100, 100), places(0, 0), []int{0}, nil, []int{0}},
		{"the second mould alone", exact(100, 1, 200, 2), order(100, 200, 200, 210), places(1, 0, 1, 1), []int{1}, nil, []int{0, 1}},
		{"the last mould alone", exact(100, 1, 200, 1, 300, 1, 150, 3), order(150, 150, 100, 160, 170, 300), places(3, 0, 3, 1, 3, 2), []int{3}, nil, []int{0, 1, 2}},
		{"the first two of three moulds", exact(100, 1, 100, 1, 100, 1), order(100, 100, 100, 100), places(0, 0, 1, 0), []int{0, 1}, nil, []int{0, 1}},
		{"the first and the last mould", exact(100, 1, 200, 1, 300, 1), order(300, 300, 0, 150), places(2, 0, 0, 0), []int{0, 2}, nil, []int{0, 1}},
		{"the latter two of three moulds", exact(100, 1, 200, 1, 300, 1), order(100, 300, 200, 300), places(0, 0, 1, 0), []int{0, 1}, nil, []int{0, 1}},
		{"all four moulds", exact(100, 1, 200, 1, 300, 1, 400, 1), order(400, 400, 300, 300, 200, 200, 100, 100), places(3, 0, 2, 0, 1, 0, 0, 0), []int{0, 1, 2, 3}, nil, []int{0, 1, 2, 3}},
		{"a cast is taken again", exact(100, 2), order(100, 110, 100, 100), places(0, 1, 0, 0), []int{0}, nil, []int{0, 1}},
		{"casts are taken one after the other", exact(100, 4), order(100, 110, 100, 120, 110, 130, 100, 100), places(0, 1, 0, 2, 0, 3, 0, 0), []int{0}, nil, []int{0, 1, 2, 3}},
		{"none fits", exact(100, 2), order(0, 99), nil, nil, []int{0}, nil},
		{"none fits either", exact(100, 2), order(0, 99, 101, 109), nil, nil, []int{0}, nil},
		{"none fits the second one", exact(100, 2), order(0, 200, 0, 99, 111, 120), nil, nil, []int{1}, []int{0}},
		{"a single one before two", exact(100, 1), order(100, 100, 100, 100, 0, 9), nil, nil, []int{2}, []int{0}},
		{"two for one cast", exact(100, 3), order(100, 100, 100, 120, 100, 100), nil, nil, []int{0, 2}, []int{0, 1}},
		{"two pairs", exact(100, 2), order(110, 110, 100, 100, 110, 110, 100, 100), nil, nil, []int{0, 2}, []int{0, 1}},
		{"three for two casts", exact(100, 2, 300, 1), order(300, 300, 0, 200, 0, 200, 0, 200), nil, nil, []int{1, 2, 3}, []int{0, 1, 2}},
		{"fewer pieces than casts of another mould", exact(100, 1, 300, 5), order(100, 100, 300, 400, 100, 100), nil, nil, []int{0, 2}, []int{0, 1}},
		{"all six for five casts", exact(100, 5), slices.Repeat(order(0, 200), 6), nil, nil, []int{0, 1, 2, 3, 4, 5}, []int{0, 1, 2, 3, 4}},
		{"the first one is kept by another cast", exact(100, 2), order(100, 110, 100, 100, 100, 110), nil, nil, []int{0, 1, 2}, []int{0, 1}},
		{"the second one is left out", exact(100, 2), order(100, 100, 100, 100, 100, 110), nil, nil, []int{0, 1}, []int{0, 2}},
	} {
		if o.lacks == nil {
			checkPlan(t, o.what, o.s, nil, o.order, o.plan, o.moulds, api.OK)
			checkLacks(t, o.what, o.s, nil, o.order, nil, api.ErrNone)
		} else {
			checkPlan(t, o.what, o.s, nil, o.order, nil, nil, api.ErrZero)
			checkLacks(t, o.what, o.s, nil, o.order, o.lacks, api.OK)
		}
		checkSome(t, o.what, o.s, nil, o.order, o.some, api.OK)
	}
}

// P7.5: against all plans, all lists of moulds, and all lists of pieces.
func TestAllPlans(t *testing.T) {
	d := dice(2)
	moulds, lacks, some := [5]int{}, [7]int{}, [7]int{}
	for range 6000 {
		s := d.small()
		seen := d.seen(s, d.truth(s), d.roll(7), 3)
		k := all(s, seen)
		pieces := d.order(k, s, d.from(1, 6))
		fits := k.fits(s, pieces)
		checkSome(t, "at random", s, seen, pieces, most(fits)[0], api.OK)
		some[len(most(fits)[0])]++
		if l := lacking(fits); len(l) > 0 {
			lacks[len(l[0])]++
			checkPlan(t, "at random", s, seen, pieces, nil, nil, api.ErrZero)
			checkLacks(t, "at random", s, seen, pieces, l[0], api.OK)
			continue
		}
		checkLacks(t, "at random", s, seen, pieces, nil, api.ErrNone)
		if len(pieces) > 4 && len(casts(s)) > 8 {
			continue
		}
		plan, m := firstPlan(fits)
		moulds[len(m)]++
		checkPlan(t, "at random", s, seen, pieces, plan, m, api.OK)
	}
	if slices.Min(moulds[1:]) < 20 || slices.Min(lacks[1:5]) < 50 || slices.Min(some[:]) < 20 {
		t.Errorf("%v moulds, %v pieces that lack casts, %v for which there is a plan: too few for a test", moulds, lacks, some)
	}
}
