package back_test

import (
	"math"
	"slices"
	"strings"
	"testing"

	"hachure/api"
	"hachure/back"
)

const (
	big   = math.MaxInt
	small = math.MinInt
)

// change is a change of a claim.
type change func(c *api.BkClaim)

// fault is a change of the sample, and what Check says of it.
type fault struct {
	what     string
	change   change
	part, at int
	e        api.Errno
}

// features, causesOf and measures return a change to other ones.
func features(f ...api.BkFeature) change { return func(c *api.BkClaim) { c.Features = f } }

func causesOf(l ...api.BkCause) change { return func(c *api.BkClaim) { c.Causes = l } }

func measures(m ...api.BkMeasure) change { return func(c *api.BkClaim) { c.Measures = m } }

// side returns a change of a feature's name and numbers, amount of a cause's Amount, called of its name, per of its Per, and
// seen of a measure.
func side(i int, name string, nominal, err int) change {
	return func(c *api.BkClaim) { c.Features[i] = feature(name, nominal, err) }
}

func amount(i, lo, hi int) change {
	return func(c *api.BkClaim) { c.Causes[i].Amount = span(lo, hi) }
}

func called(i int, name string) change { return func(c *api.BkClaim) { c.Causes[i].Name = name } }

func per(i int, per ...int) change { return func(c *api.BkClaim) { c.Causes[i].Per = per } }

func seen(i, feature, shown int) change {
	return func(c *api.BkClaim) { c.Measures[i] = was(feature, shown) }
}

// together returns all changes, one after the other.
func together(changes ...change) change {
	return func(c *api.BkClaim) {
		for _, change := range changes {
			change(c)
		}
	}
}

// featureFaults are those of features.
func featureFaults() []fault {
	bare := together(causesOf(), measures())
	wrong := together(causesOf(make([]api.BkCause, 6)...), measures(make([]api.BkMeasure, 9)...))
	return []fault{
		{"the sample", together(), 0, 0, api.OK},
		{"the greatest claim", func(c *api.BkClaim) { *c = greatestClaim() }, 0, 0, api.OK},
		{"the least claim", together(bare, features(feature("a", 1, 0))), 0, 0, api.OK},
		{"no features", features(), 1, 0, api.ErrLong},
		{"nothing", together(bare, features()), 1, 0, api.ErrLong},
		{"no features, and all else wrong", together(wrong, features()), 1, 0, api.ErrLong},
		{"5 features, all wrong", together(bare, features(make([]api.BkFeature, 5)...)), 1, 0, api.ErrForm},
		{"6 features, all wrong", together(bare, features(make([]api.BkFeature, 6)...)), 1, 0, api.ErrLong},
		{"no name", side(1, "", 800, 2), 1, 1, api.ErrForm},
		{"a name with a great letter", side(0, "Wide", 1000, 2), 1, 0, api.ErrForm},
		{"a name that begins with a hyphen", side(2, "-edge", 50, 1), 1, 2, api.ErrForm},
		{"a name of 17 bytes", side(2, strings.Repeat("e", 17), 50, 1), 1, 2, api.ErrForm},
		{"a name of 16 bytes", side(2, strings.Repeat("e", 16), 50, 1), 0, 0, api.OK},
		{"a name that is no text", side(1, "d\xff", 800, 2), 1, 1, api.ErrForm},
		{"the name of the first feature again", side(2, "wide", 50, 1), 1, 2, api.ErrTwice},
		{"the name of the second feature again", side(2, "deep", 50, 1), 1, 2, api.ErrTwice},
		{"the name of a cause", side(2, "water", 50, 1), 0, 0, api.OK},
		{"the same name that is none twice", together(side(0, "-", 1, 0), side(1, "-", 1, 0)), 1, 0, api.ErrForm},
		{"the least numbers", side(1, "deep", 1, 0), 0, 0, api.OK},
		{"the greatest numbers", side(1, "deep", 100000, 100), 0, 0, api.OK},
		{"a Nominal of 0", side(1, "deep", 0, 2), 1, 1, api.ErrRange},
		{"a Nominal below 0", side(0, "wide", -1, 2), 1, 0, api.ErrRange},
		{"a Nominal too great", side(2, "edge", 100001, 2), 1, 2, api.ErrRange},
		{"the least int as Nominal", side(2, "edge", small, 2), 1, 2, api.ErrRange},
		{"the greatest int as Nominal", side(2, "edge", big, 2), 1, 2, api.ErrRange},
		{"an Err below 0", side(1, "deep", 800, -1), 1, 1, api.ErrRange},
		{"an Err too great", side(0, "wide", 800, 101), 1, 0, api.ErrRange},
		{"the least int as Err", side(0, "wide", 800, small), 1, 0, api.ErrRange},
		{"the greatest int as Err", side(0, "wide", 800, big), 1, 0, api.ErrRange},
		{"no name before numbers", side(1, "", 0, -1), 1, 1, api.ErrForm},
		{"the same name before numbers", side(1, "wide", 0, -1), 1, 1, api.ErrTwice},
		{"the first feature decides", together(side(1, "deep", 0, 0), side(2, "", 1, 0)), 1, 1, api.ErrRange},
		{"features come before causes and measures", together(wrong, side(2, "deep", 50, 1)), 1, 2, api.ErrTwice},
	}
}

// causeFaults are those of causes.
func causeFaults() []fault {
	wrong := measures(make([]api.BkMeasure, 9)...)
	return []fault{
		{"no causes", causesOf(), 0, 0, api.OK},
		{"5 causes, all wrong", causesOf(make([]api.BkCause, 5)...), 2, 0, api.ErrForm},
		{"6 causes, all wrong", causesOf(make([]api.BkCause, 6)...), 2, 0, api.ErrLong},
		{"6 causes, and measures that are wrong", together(wrong, causesOf(make([]api.BkCause, 6)...)), 2, 0, api.ErrLong},
		{"no name", called(1, ""), 2, 1, api.ErrForm},
		{"a name with a space", called(0, "wa ter"), 2, 0, api.ErrForm},
		{"a name of 17 bytes", called(2, strings.Repeat("s", 17)), 2, 2, api.ErrForm},
		{"a name of 16 bytes, with a digit", called(2, strings.Repeat("s", 15)+"1"), 0, 0, api.OK},
		{"the name of the first cause again", called(2, "water"), 2, 2, api.ErrTwice},
		{"the name of the second cause again", called(2, "worn"), 2, 2, api.ErrTwice},
		{"the name of a feature", called(2, "wide"), 0, 0, api.OK},
		{"no Per", per(1), 2, 1, api.ErrLong},
		{"a Per too few", per(1, 1, 2), 2, 1, api.ErrLong},
		{"a Per too many", per(2, 1, 2, 3, 4), 2, 2, api.ErrLong},
		{"a Per for each of fewer features", together(features(feature("wide", 1000, 2), feature("deep", 800, 2)), per(0, 1, 1), per(1, 1, 1)), 2, 2, api.ErrLong},
		{"the least and the greatest Per", per(0, -20, 20, 0), 0, 0, api.OK},
		{"a Per too little", per(0, 0, -21, 0), 2, 0, api.ErrRange},
		{"a Per too great", per(2, 0, 0, 21), 2, 2, api.ErrRange},
		{"the least int as Per", per(1, small, 0, 0), 2, 1, api.ErrRange},
		{"the greatest int as Per", per(1, 0, 0, big), 2, 1, api.ErrRange},
		{"an Amount from 0 on", amount(0, 0, 4), 2, 0, api.ErrRange},
		{"an Amount to 0", amount(0, 1, 0), 2, 0, api.ErrRange},
		{"an Amount below 0", amount(1, -1, 4), 2, 1, api.ErrRange},
		{"an Amount too great", amount(2, 50, 51), 2, 2, api.ErrRange},
		{"an Amount whose Lo is too great", amount(2, 51, 50), 2, 2, api.ErrRange},
		{"an Amount of any int", amount(1, small, big), 2, 1, api.ErrRange},
		{"an Amount of any int, turned", amount(1, big, small), 2, 1, api.ErrRange},
		{"the least Amount", amount(1, 1, 1), 0, 0, api.OK},
		{"the greatest Amount", amount(1, 50, 50), 0, 0, api.OK},
		{"the widest Amount", amount(1, 44, 50), 0, 0, api.OK},
		{"an Amount too wide", amount(1, 43, 50), 2, 1, api.ErrArg},
		{"an Amount far too wide", amount(1, 1, 50), 2, 1, api.ErrArg},
		{"an Amount with Lo above Hi", amount(0, 3, 2), 2, 0, api.ErrArg},
		{"an Amount far turned", amount(0, 50, 1), 2, 0, api.ErrArg},
		{"no name before all else", together(called(1, ""), per(1), amount(1, 0, 99)), 2, 1, api.ErrForm},
		{"the same name before all else", together(called(1, "water"), per(1), amount(1, 0, 99)), 2, 1, api.ErrTwice},
		{"how many Per before numbers", together(per(1, 99), amount(1, 0, 99)), 2, 1, api.ErrLong},
		{"a Per before a turned Amount", together(per(1, 0, 0, 99), amount(1, 3, 2)), 2, 1, api.ErrRange},
		{"an end of Amount before how wide it is", amount(1, 0, 50), 2, 1, api.ErrRange},
		{"the first cause decides", together(amount(1, 3, 2), called(2, "")), 2, 1, api.ErrArg},
		{"causes come before measures", together(wrong, amount(2, 3, 2)), 2, 2, api.ErrArg},
	}
}

// measureFaults are those of measures.
func measureFaults() []fault {
	eight := slices.Repeat([]api.BkMeasure{was(2, 50)}, 8)
	return []fault{
		{"no measures", measures(), 0, 0, api.OK},
		{"8 measures that are the same", measures(eight...), 0, 0, api.OK},
		{"9 measures", measures(append(eight, was(0, 1))...), 3, 0, api.ErrLong},
		{"9 measures, all wrong", measures(slices.Repeat([]api.BkMeasure{was(9, -1)}, 9)...), 3, 0, api.ErrLong},
		{"a Feature below 0", seen(0, -1, 5), 3, 0, api.ErrNone},
		{"a Feature that is none", seen(1, 3, 5), 3, 1, api.ErrNone},
		{"the least int as Feature", seen(1, small, 5), 3, 1, api.ErrNone},
		{"the greatest int as Feature", seen(1, big, 5), 3, 1, api.ErrNone},
		{"nothing Shown", seen(0, 0, 0), 0, 0, api.OK},
		{"the greatest number Shown", seen(0, 0, 200000), 0, 0, api.OK},
		{"a number below 0 Shown", seen(0, 0, -1), 3, 0, api.ErrRange},
		{"a number too great Shown", seen(1, 0, 200001), 3, 1, api.ErrRange},
		{"the least int Shown", seen(1, 2, small), 3, 1, api.ErrRange},
		{"the greatest int Shown", seen(1, 2, big), 3, 1, api.ErrRange},
		{"a Feature before Shown", seen(1, 3, -1), 3, 1, api.ErrNone},
		{"the first measure decides", together(seen(0, 0, -1), seen(1, 9, 5)), 3, 0, api.ErrRange},
		{"the last of 8 measures", together(measures(eight...), seen(7, 3, 50)), 3, 7, api.ErrNone},
	}
}

// P12.1: each part, the order of errors, and that all other functions return the error first.
func TestCheck(t *testing.T) {
	for _, f := range slices.Concat(featureFaults(), causeFaults(), measureFaults()) {
		c := sample()
		f.change(&c)
		part, at, e := back.Check(c)
		if part != f.part || at != f.at || e != f.e {
			t.Errorf("%s: Check = %d, %d, %d, not %d, %d, %d", f.what, part, at, e, f.part, f.at, f.e)
		}
		if f.e != api.OK {
			checkErrors(t, f.what, c, f.e)
		}
	}
}

// checkErrors checks that each function but Check returns an error before its own ones, and nothing else with it.
func checkErrors(t *testing.T, what string, c api.BkClaim, e api.Errno) {
	t.Helper()
	checkSets(t, what, c, nil, e)
	checkWrong(t, what, c, nil, e)
	checkNothing(t, what, c, e)
	for _, odd := range []int{0, -1, 9, big, small} {
		checkAmount(t, what, c, odd, api.Span{}, e)
		checkValue(t, what, c, odd, api.Span{}, e)
	}
}

// checkNothing checks that each function that needs a truth, without an index, returns an error, and nothing else with it.
func checkNothing(t *testing.T, what string, c api.BkClaim, e api.Errno) {
	t.Helper()
	checkMust(t, what, c, nil, nil, e)
	checkPlainest(t, what, c, nil, e)
	checkAsk(t, what, c, 0, 0, e)
}

func checkSets(t *testing.T, what string, c api.BkClaim, want [][]int, e api.Errno) {
	t.Helper()
	if sets, f := back.Sets(c); !sameLists(sets, want) || f != e {
		t.Errorf("%s: %v: Sets = %v, %d, not %v, %d", what, c, sets, f, want, e)
	}
}

func checkMust(t *testing.T, what string, c api.BkClaim, must, may []int, e api.Errno) {
	t.Helper()
	if m, n, f := back.Must(c); !slices.Equal(m, must) || !slices.Equal(n, may) || f != e {
		t.Errorf("%s: %v: Must = %v, %v, %d, not %v, %v, %d", what, c, m, n, f, must, may, e)
	}
}

func checkAmount(t *testing.T, what string, c api.BkClaim, cause int, want api.Span, e api.Errno) {
	t.Helper()
	if s, f := back.Amount(c, cause); s != want || f != e {
		t.Errorf("%s: %v: Amount of %d = %v, %d, not %v, %d", what, c, cause, s, f, want, e)
	}
}

func checkValue(t *testing.T, what string, c api.BkClaim, feature int, want api.Span, e api.Errno) {
	t.Helper()
	if s, f := back.Value(c, feature); s != want || f != e {
		t.Errorf("%s: %v: Value of %d = %v, %d, not %v, %d", what, c, feature, s, f, want, e)
	}
}

func checkPlainest(t *testing.T, what string, c api.BkClaim, want []int, e api.Errno) {
	t.Helper()
	if l, f := back.Plainest(c); !slices.Equal(l, want) || f != e {
		t.Errorf("%s: %v: Plainest = %v, %d, not %v, %d", what, c, l, f, want, e)
	}
}

func checkWrong(t *testing.T, what string, c api.BkClaim, want []int, e api.Errno) {
	t.Helper()
	if l, f := back.Wrong(c); !slices.Equal(l, want) || f != e {
		t.Errorf("%s: %v: Wrong = %v, %d, not %v, %d", what, c, l, f, want, e)
	}
}

func checkAsk(t *testing.T, what string, c api.BkClaim, feature, left int, e api.Errno) {
	t.Helper()
	if n, l, f := back.Ask(c); n != feature || l != left || f != e {
		t.Errorf("%s: %v: Ask = %d, %d, %d, not %d, %d, %d", what, c, n, l, f, feature, left, e)
	}
}

// The examples of the chapter, and the tenth one of the document.
func TestExamples(t *testing.T) {
	c, edge := sample(), sample(was(2, 47))
	checkSets(t, "C", c, [][]int{{0}}, api.OK)
	checkSets(t, "with edge 47", edge, [][]int{{0, 1}}, api.OK)
	checkMust(t, "C", c, []int{0}, []int{0, 1, 2}, api.OK)
	checkMust(t, "with edge 47", edge, []int{0, 1}, []int{0, 1, 2}, api.OK)
	for i, want := range []api.Span{span(2, 4), span(0, 1), span(0, 1)} {
		checkAmount(t, "C", c, i, want, api.OK)
	}
	checkValue(t, "C", c, 2, span(47, 51), api.OK)
	checkValue(t, "C", c, 0, span(988, 990), api.OK)
	checkValue(t, "C", c, 1, span(792, 792), api.OK)
	checkPlainest(t, "C", c, []int{2, 0, 0}, api.OK)
	checkPlainest(t, "with edge 47", edge, []int{2, 1, 0}, api.OK)
	checkWrong(t, "with wide 1010", sample(was(0, 1010)), []int{2}, api.OK)
	checkWrong(t, "C", c, nil, api.OK)
	checkAsk(t, "C", c, 2, 2, api.OK)
}

// P12.3: the errors of an index come before ErrZero. ErrZero, if no truth agrees, of all but Sets and Wrong.
func TestErrors(t *testing.T) {
	for _, odd := range []int{-1, 3, 9, small, big} {
		for _, c := range []api.BkClaim{sample(), contrary()} {
			checkAmount(t, "no cause", c, odd, api.Span{}, api.ErrNone)
			checkValue(t, "no feature", c, odd, api.Span{}, api.ErrNone)
		}
	}
	bare := single(0, nil, 1001)
	checkAmount(t, "no causes", bare, 0, api.Span{}, api.ErrNone)
	checkAmount(t, "no causes", single(0, nil), 0, api.Span{}, api.ErrNone)
	checkValue(t, "one feature", bare, 1, api.Span{}, api.ErrNone)
	checkValue(t, "one feature", bare, 0, api.Span{}, api.ErrZero)
	checkNothing(t, "no causes", bare, api.ErrZero)
	checkSets(t, "no causes", bare, nil, api.OK)
	checkWrong(t, "no causes", bare, []int{0}, api.OK)
	c := contrary()
	checkNothing(t, "no truth", c, api.ErrZero)
	for i := range 3 {
		checkAmount(t, "no truth", c, i, api.Span{}, api.ErrZero)
		checkValue(t, "no truth", c, i, api.Span{}, api.ErrZero)
	}
	checkSets(t, "no truth", c, nil, api.OK)
	checkWrong(t, "no truth", c, []int{2}, api.OK)
}

// hand is a claim, and what all functions return if some truth agrees.
type hand struct {
	what      string
	c         api.BkClaim
	sets      [][]int
	must, may []int
	amounts   []api.Span
	values    []api.Span
	plainest  []int
	ask, left int
}

// byHand are claims whose truths are known.
func byHand() []hand {
	up, down := cause("up", 2, 4, 3), cause("down", 1, 2, -3)
	idle, far := cause("idle", 3, 5, 0), cause("far", 49, 50, 20)
	two := single(0, []api.BkCause{up, down})
	two.Features = append(two.Features, feature("top", 50, 3))
	two.Causes[0].Per, two.Causes[1].Per = []int{3, 1}, []int{-3, 0}
	return []hand{
		{"no causes and measures", single(5, nil), [][]int{nil}, nil, nil, nil, []api.Span{span(1000, 1000)}, nil, 0, 1},
		{"no causes", single(5, nil, 995, 1005), [][]int{nil}, nil, nil, nil, []api.Span{span(1000, 1000)}, nil, 0, 1},
		{"no measures", single(0, []api.BkCause{up, down}), [][]int{nil}, nil, []int{0, 1},
			[]api.Span{span(0, 4), span(0, 2)}, []api.Span{span(994, 1012)}, []int{0, 0}, 0, 2},
		{"just up", single(0, []api.BkCause{up, down}, 1012), [][]int{{0}}, []int{0}, []int{0},
			[]api.Span{span(4, 4), span(0, 0)}, []api.Span{span(1012, 1012)}, []int{4, 0}, 0, 1},
		{"one cause less the other one", single(0, []api.BkCause{up, down}, 1003), [][]int{{0, 1}}, []int{0, 1}, []int{0, 1},
			[]api.Span{span(2, 3), span(1, 2)}, []api.Span{span(1003, 1003)}, []int{2, 1}, 0, 1},
		{"both in turn", single(0, []api.BkCause{down, up}, 1003), [][]int{{0, 1}}, []int{0, 1}, []int{0, 1},
			[]api.Span{span(1, 2), span(2, 3)}, []api.Span{span(1003, 1003)}, []int{1, 2}, 0, 1},
		{"up, or both", single(0, []api.BkCause{up, down}, 1009), [][]int{{0}}, []int{0}, []int{0, 1},
			[]api.Span{span(3, 4), span(0, 1)}, []api.Span{span(1009, 1009)}, []int{3, 0}, 0, 2},
		{"none, or both", single(0, []api.BkCause{up, down}, 1000), [][]int{nil}, nil, []int{0, 1},
			[]api.Span{span(0, 2), span(0, 2)}, []api.Span{span(1000, 1000)}, []int{0, 0}, 0, 2},
		{"what changes nothing", single(0, []api.BkCause{idle, up}, 1006), [][]int{{1}}, []int{1}, []int{0, 1},
			[]api.Span{span(0, 5), span(2, 2)}, []api.Span{span(1006, 1006)}, []int{0, 2}, 0, 2},
		{"either of two", single(0, []api.BkCause{idle, cause("a", 3, 4, 2), up}, 1006), [][]int{{1}, {2}}, nil, []int{0, 1, 2},
			[]api.Span{span(0, 5), span(0, 3), span(0, 2)}, []api.Span{span(1006, 1006)}, []int{0, 3, 0}, 0, 4},
		{"the least amount", single(1, []api.BkCause{far}, 1981), [][]int{{0}}, []int{0}, []int{0},
			[]api.Span{span(49, 49)}, []api.Span{span(1980, 1980)}, []int{49}, 0, 1},
		{"the greatest amount", single(1, []api.BkCause{far}, 1999), [][]int{{0}}, []int{0}, []int{0},
			[]api.Span{span(50, 50)}, []api.Span{span(2000, 2000)}, []int{50}, 0, 1},
		{"one that another measure excludes", single(2, []api.BkCause{up, down}, 1005, 1001), [][]int{{0, 1}}, []int{0, 1}, []int{0, 1},
			[]api.Span{span(2, 3), span(1, 2)}, []api.Span{span(1003, 1003)}, []int{2, 1}, 0, 1},
		{"two features", two, [][]int{nil}, nil, []int{0, 1},
			[]api.Span{span(0, 4), span(0, 2)}, []api.Span{span(994, 1012), span(50, 54)}, []int{0, 0}, 0, 2},
	}
}

// P12.2 to P12.4, P12.6: by hand.
func TestByHand(t *testing.T) {
	for _, h := range byHand() {
		checkSets(t, h.what, h.c, h.sets, api.OK)
		checkMust(t, h.what, h.c, h.must, h.may, api.OK)
		for i, want := range h.amounts {
			checkAmount(t, h.what, h.c, i, want, api.OK)
		}
		for i, want := range h.values {
			checkValue(t, h.what, h.c, i, want, api.OK)
		}
		checkPlainest(t, h.what, h.c, h.plainest, api.OK)
		checkWrong(t, h.what, h.c, nil, api.OK)
		checkAsk(t, h.what, h.c, h.ask, h.left, api.OK)
	}
}

// P12.2: sets with fewer causes come first, then those with the first numbers; none has another one as a part.
func TestSetsInOrder(t *testing.T) {
	ones := func(per ...int) (l []api.BkCause) {
		for i, n := range per {
			l = append(l, cause(names()[i], 1, 1, n))
		}
		return l
	}
	for _, o := range []struct {
		what  string
		c     api.BkClaim
		sets  [][]int
		plain []int
	}{
		{"one alone, and two others", single(0, ones(1, 2, 3, 1, 2), 1003), [][]int{{2}, {0, 1}, {0, 4}, {1, 3}, {3, 4}}, []int{0, 0, 1, 0, 0}},
		{"a fewer one behind", single(0, ones(1, 2, 2, 1, 3), 1003), [][]int{{4}, {0, 1}, {0, 2}, {1, 3}, {2, 3}}, []int{0, 0, 0, 0, 1}},
		{"three of five", single(0, ones(1, 1, 1, 1, 1), 1003), [][]int{{0, 1, 2}, {0, 1, 3}, {0, 1, 4}, {0, 2, 3}, {0, 2, 4}, {0, 3, 4}, {1, 2, 3}, {1, 2, 4}, {1, 3, 4}, {2, 3, 4}}, []int{1, 1, 1, 0, 0}},
		{"three, of which two have others", single(0, ones(3, 2, 2, -1, 4), 1004), [][]int{{4}, {1, 2}, {0, 1, 3}, {0, 2, 3}}, []int{0, 0, 0, 0, 1}},
		{"all of five", single(0, ones(1, 2, 4, 8, 16), 1031), [][]int{{0, 1, 2, 3, 4}}, []int{1, 1, 1, 1, 1}},
		{"none, though others explain it", single(0, ones(1, -1, 0, 2, -2), 1000), [][]int{nil}, []int{0, 0, 0, 0, 0}},
		{"not by any", single(0, ones(2, 4, 6, 8, 10), 1003), nil, nil},
	} {
		checkSets(t, o.what, o.c, o.sets, api.OK)
		e := api.OK
		if o.sets == nil {
			e = api.ErrZero
		}
		checkPlainest(t, o.what, o.c, o.plain, e)
	}
}

// P12.4: of the truths that have the first set the first one; there can be truths before it that have other sets.
func TestPlainestByHand(t *testing.T) {
	c := single(4, []api.BkCause{cause("a", 1, 7, 2), cause("b", 1, 2, 20)}, 1010)
	checkPlainest(t, "the least amount", c, []int{3, 0}, api.OK)
	c.Causes = append(c.Causes, cause("c", 1, 1, 10))
	checkPlainest(t, "a cause before an amount that is closer", c, []int{3, 0, 0}, api.OK)
	c.Causes[0].Amount = span(1, 2)
	checkPlainest(t, "a cause behind", c, []int{0, 0, 1}, api.OK)
	c.Causes = []api.BkCause{cause("a", 1, 2, -5), cause("b", 1, 2, 10), cause("c", 1, 3, 5)}
	c.Features[0].Err, c.Measures[0].Shown = 0, 1015
	checkPlainest(t, "one cause, behind truths with two", c, []int{0, 0, 3}, api.OK)
	c.Causes[2].Amount.Hi = 2
	checkPlainest(t, "a set that comes first, behind another truth", c, []int{1, 2, 0}, api.OK)
	c.Causes[0].Amount.Lo = 2
	checkPlainest(t, "two causes", c, []int{0, 1, 1}, api.OK)
}

// P12.5: by hand.
func TestWrongByHand(t *testing.T) {
	step := []api.BkCause{cause("a", 1, 5, 10)}
	for _, o := range []struct {
		what  string
		shown []int
		want  []int
	}{
		{"no measures", nil, nil},
		{"all true", []int{1011, 1009, 1010}, nil},
		{"one that no truth has", []int{1015}, []int{0}},
		{"one of two", []int{1010, 1020}, []int{0}},
		{"one of three", []int{1010, 1020, 1010}, []int{1}},
		{"the last one", []int{1010, 1011, 1020}, []int{2}},
		{"two of four, the first ones", []int{1010, 1010, 1020, 1020}, []int{0, 1}},
		{"two of four, in turn", []int{1010, 1020, 1010, 1020}, []int{0, 2}},
		{"those that differ", []int{1020, 1010, 1010, 1030, 1040}, []int{0, 3, 4}},
		{"all", []int{1003, 1015, 1025, 1035}, []int{0, 1, 2, 3}},
		{"all but the last one", []int{0, 200000, 1055, 1050}, []int{0, 1, 2}},
		{"all of 8", []int{5, 5, 5, 5, 5, 5, 5, 5}, []int{0, 1, 2, 3, 4, 5, 6, 7}},
		{"7 of 8", []int{1000, 1010, 1020, 1030, 1040, 1050, 5, 5}, []int{0, 1, 2, 3, 4, 6, 7}},
	} {
		checkWrong(t, o.what, single(1, step, o.shown...), o.want, api.OK)
	}
	checkWrong(t, "no causes", single(1, nil, 998, 999, 1001, 1002), []int{0, 3}, api.OK)
	checkWrong(t, "two features", sample(was(0, 1010), was(2, 90), was(1, 793)), []int{2, 3}, api.OK)
}

// asking is a claim with so many features, each with an Err and with how much each of some causes changes it.
func asking(errs []int, causes ...api.BkCause) api.BkClaim {
	c := api.BkClaim{Causes: causes}
	for i, err := range errs {
		c.Features = append(c.Features, feature(names()[i], 1000, err))
	}
	return c
}

// P12.6: by hand.
func TestAskByHand(t *testing.T) {
	one := func(name string, per ...int) api.BkCause { return cause(name, 1, 1, per...) }
	for _, o := range []struct {
		what          string
		c             api.BkClaim
		feature, left int
	}{
		{"no causes", asking([]int{0, 0}), 0, 1},
		{"the second feature tells", asking([]int{0, 0}, one("a", 0, 1)), 1, 1},
		{"both tell", asking([]int{0, 0}, one("a", 1, 1)), 0, 1},
		{"the first one is off by too much", asking([]int{1, 0}, one("a", 1, 1)), 1, 1},
		{"just as far as both can be off", asking([]int{1, 1}, one("a", 2, 3)), 1, 1},
		{"none tells", asking([]int{2, 3}, one("a", 4, 6)), 0, 2},
		{"none tells of more", asking([]int{0, 0}, one("a", 0, 0), one("b", 0, 0)), 0, 4},
		{"three of four, or two", asking([]int{2, 1}, one("a", 2, 2), one("b", 4, 4)), 1, 2},
		{"three, not beside each other", asking([]int{4, 4}, one("a", 8, 6), one("b", 0, 20)), 1, 2},
		{"a set counts once", asking([]int{5}, cause("a", 1, 4, 2)), 0, 2},
		{"a set that comes again", asking([]int{0, 0}, cause("a", 1, 2, 3, 4), cause("b", 1, 2, 3, 0)), 1, 2},
		{"below 0", asking([]int{0, 0}, cause("a", 50, 50, -20, 0), cause("b", 50, 50, -20, 0), cause("c", 1, 1, 0, 1)), 0, 4},
	} {
		checkAsk(t, o.what, o.c, o.feature, o.left, api.OK)
	}
	// What is shown leaves just the sets of truths that agree already.
	c := asking([]int{0, 9}, one("a", 3, 3), one("b", 6, 6), one("c", 9, 9))
	checkAsk(t, "before it is measured", c, 0, 2, api.OK)
	c.Measures = []api.BkMeasure{was(0, 1009)}
	checkAsk(t, "once it is measured", c, 0, 2, api.OK)
	c.Features = append(c.Features, feature("c", 1000, 0))
	for i := range c.Causes {
		c.Causes[i].Per = append(c.Causes[i].Per, i)
	}
	checkAsk(t, "one that tells these apart", c, 2, 1, api.OK)
	// A length, and what is shown, can be below 0, though no measure can show that.
	c = asking([]int{3, 1}, cause("a", 50, 50, -20, 0), cause("b", 1, 1, -2, 2), cause("c", 1, 1, -4, 2))
	c.Features[0].Nominal = 1
	checkAsk(t, "lengths below 0", c, 0, 4, api.OK)
}

// checkAll checks what all functions return for a claim, against all truths, and reports whether some truth agrees.
func checkAll(t *testing.T, what string, c api.BkClaim) bool {
	t.Helper()
	truths := truths(c)
	checkSets(t, what, c, least(explaining(truths)), api.OK)
	if len(truths) == 0 {
		checkNothing(t, what, c, api.ErrZero)
		return false
	}
	must, may := causes(len(c.Causes), truths)
	checkMust(t, what, c, must, may, api.OK)
	for i := range c.Causes {
		checkAmount(t, what, c, i, between(truths, func(t []int) int { return t[i] }), api.OK)
	}
	for i := range c.Features {
		checkValue(t, what, c, i, between(truths, func(t []int) int { return length(c, t, i) }), api.OK)
	}
	checkPlainest(t, what, c, plainest(truths), api.OK)
	return true
}

// P12.2 to P12.4: against all truths.
func TestTruths(t *testing.T) {
	d := dice(1)
	is, none, several, bare, part := 0, 0, 0, 0, 0
	for range 20000 {
		c := d.any()
		if !checkAll(t, "a claim", c) {
			none++
			continue
		}
		is++
		sets := explaining(truths(c))
		switch few := least(sets); {
		case len(few[0]) == 0:
			bare++
		case len(few) > 1:
			several++
		}
		if len(least(sets)) < len(sets) {
			part++
		}
	}
	if is < 5000 || min(none, several, bare, part) < 1000 {
		t.Errorf("%d with truths, %d without, %d with several sets, %d with none, %d with others: too few for a test", is, none, several, bare, part)
	}
}

// P12.5: against all lists of measures.
func TestWrong(t *testing.T) {
	d := dice(2)
	none, some, several := 0, 0, 0
	for range 24000 {
		c := d.any()
		want, ties := wrong(c)
		checkWrong(t, "a claim", c, want, api.OK)
		switch {
		case len(want) == 0:
			none++
		case ties > 1:
			several++
		default:
			some++
		}
	}
	if none < 1000 || some < 500 || several < 500 {
		t.Errorf("%d of which none is wrong, %d of which some are, %d of several: too few for a test", none, some, several)
	}
}

// P12.6: against all that can be shown.
func TestAsk(t *testing.T) {
	d := dice(3)
	later, tied, more := 0, 0, 0
	for range 16000 {
		c := d.any()
		truths := truths(c)
		if len(truths) == 0 {
			continue
		}
		feature, few, ties := ask(c, truths)
		checkAsk(t, "a claim", c, feature, few, api.OK)
		if feature > 0 {
			later++
		}
		if ties > 1 {
			tied++
		}
		if few > 1 && few < len(explaining(truths)) {
			more++
		}
	}
	if min(later, tied, more) < 700 {
		t.Errorf("%d of a later feature, %d of several, %d with some sets: too few for a test", later, tied, more)
	}
}
