package step_test

import (
	"math"
	"slices"
	"strings"
	"testing"

	"hachure/api"
	"hachure/step"
)

// fault is a change of the sample, and what Check says of it.
type fault struct {
	what     string
	change   func(s *api.SpStack)
	part, at int
	e        api.Errno
}

// kindFaults are those of kinds and of the air.
func kindFaults() []fault {
	return []fault{
		{"the sample", func(s *api.SpStack) {}, 0, 0, api.OK},
		{"no kinds, and air too great", func(s *api.SpStack) { s.Kinds, s.Air.Hi = nil, 101 }, 1, 0, api.ErrLong},
		{"four kinds, all wrong", func(s *api.SpStack) { s.Kinds = make([]api.SpKind, 4) }, 1, 0, api.ErrLong},
		{"three kinds, for the measure", func(s *api.SpStack) { s.Kinds = append(s.Kinds, board("mid", 1, 1, 0, 0)) }, 3, 0, api.ErrLong},
		{"three kinds", func(s *api.SpStack) { s.Kinds, s.Measures = append(s.Kinds, board("mid", 1, 1, 0, 0)), nil }, 0, 0, api.OK},
		{"one kind", func(s *api.SpStack) { s.Kinds, s.Measures = s.Kinds[:1], nil }, 0, 0, api.OK},
		{"no name", func(s *api.SpStack) { s.Kinds[0] = api.SpKind{Grow: -1} }, 1, 0, api.ErrForm},
		{"a name with a capital", func(s *api.SpStack) { s.Kinds[1].Name = "Fat" }, 1, 1, api.ErrForm},
		{"a name too long", func(s *api.SpStack) { s.Kinds[1].Name = strings.Repeat("f", 17) }, 1, 1, api.ErrForm},
		{"the longest name", func(s *api.SpStack) { s.Kinds[1].Name = strings.Repeat("f", 16) }, 0, 0, api.OK},
		{"no name twice", func(s *api.SpStack) { s.Kinds[0].Name, s.Kinds[1].Name = "-", "-" }, 1, 0, api.ErrForm},
		{"a name twice, and more", func(s *api.SpStack) { s.Kinds[1] = board("thin", 0, 5001, -1, 13) }, 1, 1, api.ErrTwice},
		{"the first kind decides", func(s *api.SpStack) { s.Kinds[0].Have, s.Kinds[1].Name = 13, "" }, 1, 0, api.ErrRange},
		{"Lo below 1", func(s *api.SpStack) { s.Kinds[0].Thick = span(0, 5) }, 1, 0, api.ErrRange},
		{"Lo too great, above Hi", func(s *api.SpStack) { s.Kinds[1].Thick = span(5001, 5) }, 1, 1, api.ErrRange},
		{"Hi too great, and far from Lo", func(s *api.SpStack) { s.Kinds[1].Thick.Hi = 5001 }, 1, 1, api.ErrRange},
		{"the greatest int as Hi", func(s *api.SpStack) { s.Kinds[1].Thick = span(1, math.MaxInt) }, 1, 1, api.ErrRange},
		{"the least int as Lo", func(s *api.SpStack) { s.Kinds[1].Thick = span(math.MinInt, 1) }, 1, 1, api.ErrRange},
		{"Grow below 0, Lo above Hi", func(s *api.SpStack) { s.Kinds[0].Grow, s.Kinds[0].Thick.Lo = -1, 305 }, 1, 0, api.ErrRange},
		{"Grow too great", func(s *api.SpStack) { s.Kinds[0].Grow = 51 }, 1, 0, api.ErrRange},
		{"Have below 0, Hi far from Lo", func(s *api.SpStack) { s.Kinds[0].Have, s.Kinds[0].Thick.Hi = -1, 313 }, 1, 0, api.ErrRange},
		{"Have too great", func(s *api.SpStack) { s.Kinds[1].Have = 13 }, 1, 1, api.ErrRange},
		{"Lo above Hi", func(s *api.SpStack) { s.Kinds[1].Thick = span(7, 6) }, 1, 1, api.ErrArg},
		{"Hi far from Lo", func(s *api.SpStack) { s.Kinds[0].Thick.Hi = 313 }, 1, 0, api.ErrArg},
		{"Hi just near Lo", func(s *api.SpStack) { s.Kinds[0].Thick.Hi = 312 }, 0, 0, api.OK},
		{"the least kind", func(s *api.SpStack) { s.Kinds[1] = board("a", 1, 1, 0, 0) }, 0, 0, api.OK},
		{"the greatest kind", func(s *api.SpStack) { s.Kinds[1] = board("z9-", 4988, 5000, 50, 12) }, 0, 0, api.OK},
		{"kinds before air", func(s *api.SpStack) { s.Kinds[1].Have, s.Air.Lo = 13, -1 }, 1, 1, api.ErrRange},
		{"air below 0", func(s *api.SpStack) { s.Air = span(-1, 5) }, 2, 0, api.ErrRange},
		{"air too great", func(s *api.SpStack) { s.Air = span(0, 101) }, 2, 0, api.ErrRange},
		{"air too great, above its end", func(s *api.SpStack) { s.Air = span(101, 5) }, 2, 0, api.ErrRange},
		{"air below 0 at its end", func(s *api.SpStack) { s.Air = span(0, -1) }, 2, 0, api.ErrRange},
		{"air that ends before it begins", func(s *api.SpStack) { s.Air = span(6, 5) }, 2, 0, api.ErrArg},
		{"any air", func(s *api.SpStack) { s.Air = span(0, 100) }, 0, 0, api.OK},
		{"air before measures", func(s *api.SpStack) { s.Air, s.Measures = span(6, 5), make([]api.SpMeasure, 7) }, 2, 0, api.ErrArg},
	}
}

// measureFaults are those of measures and of bands.
func measureFaults() []fault {
	big := math.MaxInt
	return []fault{
		{"seven measures, all wrong", func(s *api.SpStack) { s.Measures = make([]api.SpMeasure, 7) }, 3, 0, api.ErrLong},
		{"six measures", func(s *api.SpStack) { s.Measures = slices.Repeat(s.Measures, 6) }, 0, 0, api.OK},
		{"too few Counts", func(s *api.SpStack) { s.Measures[0] = was(-1, -2, -1, 0) }, 3, 0, api.ErrLong},
		{"too many Counts", func(s *api.SpStack) { s.Measures[0].Counts = []int{1, 1, 1} }, 3, 0, api.ErrLong},
		{"far too many Counts", func(s *api.SpStack) { s.Measures[0].Counts = make([]int, 1000) }, 3, 0, api.ErrLong},
		{"Counts below 0", func(s *api.SpStack) { s.Measures[0].Counts[1] = -1 }, 3, 0, api.ErrRange},
		{"Counts too great", func(s *api.SpStack) { s.Measures[0].Counts[0] = 13 }, 3, 0, api.ErrRange},
		{"the greatest int in Counts", func(s *api.SpStack) { s.Measures[0].Counts[0] = big }, 3, 0, api.ErrRange},
		{"the greatest Counts", func(s *api.SpStack) { s.Measures[0].Counts = []int{12, 12} }, 0, 0, api.OK},
		{"Air below 0, Counts 0", func(s *api.SpStack) { s.Measures[0] = was(1, 2, -1, 0, 0) }, 3, 0, api.ErrRange},
		{"Air too great", func(s *api.SpStack) { s.Measures[0].Air = 101 }, 3, 0, api.ErrRange},
		{"the greatest Air", func(s *api.SpStack) { s.Measures[0].Air = 100 }, 0, 0, api.OK},
		{"a Level below 0, Counts 0", func(s *api.SpStack) { s.Measures[0] = was(-1, 2, 0, 0, 0) }, 3, 0, api.ErrRange},
		{"a Level too great", func(s *api.SpStack) { s.Measures[0].Level.Hi = 400001 }, 3, 0, api.ErrRange},
		{"a Level too great, above its end", func(s *api.SpStack) { s.Measures[0].Level.Lo = 400001 }, 3, 0, api.ErrRange},
		{"a Level that ends below 0", func(s *api.SpStack) { s.Measures[0].Level = span(0, -1) }, 3, 0, api.ErrRange},
		{"any Level", func(s *api.SpStack) { s.Measures[0].Level = span(0, 400000) }, 0, 0, api.OK},
		{"Counts 0", func(s *api.SpStack) { s.Measures[0].Counts = []int{0, 0} }, 3, 0, api.ErrArg},
		{"a Level that ends before it begins", func(s *api.SpStack) { s.Measures[0].Level = span(6, 5) }, 3, 0, api.ErrArg},
		{"the second measure", func(s *api.SpStack) { s.Measures = append(s.Measures, was(1, 0, 0, 1, 1)) }, 3, 1, api.ErrArg},
		{"the first measure decides", func(s *api.SpStack) { s.Measures = []api.SpMeasure{was(1, 0, 0, 1, 1), was(1, 2, 0)} }, 3, 0, api.ErrArg},
		{"a measure that no truth agrees with", func(s *api.SpStack) { s.Measures[0].Level = span(0, 0) }, 0, 0, api.OK},
		{"measures before bands", func(s *api.SpStack) { s.Measures[0].Air, s.Bands = 101, make([]api.Span, 6) }, 3, 0, api.ErrRange},
		{"six bands, all wrong", func(s *api.SpStack) { s.Bands = make([]api.Span, 6) }, 4, 0, api.ErrLong},
		{"five bands", func(s *api.SpStack) { s.Bands = append(s.Bands, span(3306, 3306), span(3307, 400000)) }, 0, 0, api.OK},
		{"a band from 0", func(s *api.SpStack) { s.Bands[0].Lo = 0 }, 4, 0, api.ErrRange},
		{"a band from 1", func(s *api.SpStack) { s.Bands[0].Lo = 1 }, 0, 0, api.OK},
		{"a band too great", func(s *api.SpStack) { s.Bands[2].Hi = 400001 }, 4, 2, api.ErrRange},
		{"a band too great, above its end", func(s *api.SpStack) { s.Bands[1].Lo = 400001 }, 4, 1, api.ErrRange},
		{"a band below 1 at its end", func(s *api.SpStack) { s.Bands[0].Hi = 0 }, 4, 0, api.ErrRange},
		{"a band that ends before it begins", func(s *api.SpStack) { s.Bands[1] = span(2600, 2599) }, 4, 1, api.ErrArg},
		{"a band that begins where one ends", func(s *api.SpStack) { s.Bands[1].Lo = 1340 }, 4, 1, api.ErrArg},
		{"a band that begins behind one", func(s *api.SpStack) { s.Bands[1].Lo = 1341 }, 0, 0, api.OK},
		{"a band below the one before", func(s *api.SpStack) { s.Bands[2] = span(1400, 1500) }, 4, 2, api.ErrArg},
		{"the first band decides", func(s *api.SpStack) { s.Bands[1].Lo, s.Bands[2].Lo = 1340, 0 }, 4, 1, api.ErrArg},
		{"no measures and no bands", func(s *api.SpStack) { s.Measures, s.Bands = nil, nil }, 0, 0, api.OK},
	}
}

// P3.1: parts, indices, errors, and which one comes first.
func TestCheck(t *testing.T) {
	for _, f := range append(kindFaults(), measureFaults()...) {
		s := relief()
		f.change(&s)
		if part, at, e := step.Check(s); part != f.part || at != f.at || e != f.e {
			t.Errorf("%s: Check = %d, %d, %d", f.what, part, at, e)
		}
		checkErrors(t, f.what, s, f.e)
	}
}

// checkErrors checks that each function returns the error of Check first, and nothing else with it.
func checkErrors(t *testing.T, what string, s api.SpStack, e api.Errno) {
	t.Helper()
	if e == api.OK {
		return
	}
	for _, list := range [][]int{nil, {1, 1}, {-1, 13}} {
		if r, f := step.Level(s, list); r != span(0, 0) || f != e {
			t.Errorf("%s: Level = %v, %d", what, r, f)
		}
	}
	for _, plan := range [][][]int{nil, {{1, 1}, {2, 2}, {4, 2}}, {{13, -1}}} {
		if band, thick, air, n, f := step.Bad(s, plan); band != 0 || len(thick) > 0 || air != 0 || n != 0 || f != e {
			t.Errorf("%s: Bad = %d, %v, %d, %d, %d", what, band, thick, air, n, f)
		}
	}
	if l, f := step.Wrong(s); len(l) > 0 || f != e {
		t.Errorf("%s: Wrong = %v, %d", what, l, f)
	}
	checkNothing(t, what, s, e)
}

// checkNothing checks that the functions with nothing but a stack, all but Wrong, return this error alone.
func checkNothing(t *testing.T, what string, s api.SpStack, e api.Errno) {
	t.Helper()
	if l, f := step.Thick(s); len(l) > 0 || f != e {
		t.Errorf("%s: Thick = %v, %d", what, l, f)
	}
	if p, f := step.Plan(s); len(p) > 0 || f != e {
		t.Errorf("%s: Plan = %v, %d", what, p, f)
	}
	if n, f := step.Barrier(s); n != 0 || f != e {
		t.Errorf("%s: Barrier = %d, %d", what, n, f)
	}
	if l, f := step.More(s); len(l) > 0 || f != e {
		t.Errorf("%s: More = %v, %d", what, l, f)
	}
}

// checkMiss checks what Bad returns.
func checkMiss(t *testing.T, what string, s api.SpStack, plan [][]int, want miss, e api.Errno) {
	t.Helper()
	band, thick, air, n, f := step.Bad(s, plan)
	if band != want.band || !slices.Equal(thick, want.thick) || air != want.air || n != want.level || f != e {
		t.Errorf("%s: Bad of %v = %d, %v, %d, %d, %d, not %v, %d", what, plan, band, thick, air, n, f, want, e)
	}
}

// The examples of the chapter, and the third one of the document.
func TestExamples(t *testing.T) {
	s := relief()
	if l, e := step.Thick(s); !slices.Equal(l, []api.Span{span(300, 304), span(1000, 1006)}) || e != api.OK {
		t.Errorf("Thick = %v, %d", l, e)
	}
	if r, e := step.Level(s, []int{1, 1}); r != span(1303, 1337) || e != api.OK {
		t.Errorf("Level of 1 and 1 = %v, %d", r, e)
	}
	if r, e := step.Level(s, []int{2, 1}); r != span(1606, 1648) || e != api.OK {
		t.Errorf("Level of 2 and 1 = %v, %d", r, e)
	}
	if p, e := step.Plan(s); !samePlan(p, [][]int{{1, 1}, {2, 2}, {4, 2}}) || e != api.OK {
		t.Errorf("Plan = %v, %d", p, e)
	}
	if n, e := step.Barrier(s); n != 0 || e != api.ErrNone {
		t.Errorf("Barrier = %d, %d", n, e)
	}
	if l, e := step.More(s); !slices.Equal(l, []int{0, 0}) || e != api.OK {
		t.Errorf("More = %v, %d", l, e)
	}
	checkMiss(t, "S", s, [][]int{{1, 1}, {2, 2}, {5, 2}}, miss{2, []int{300, 1006}, 0, 3512}, api.OK)
	checkMiss(t, "S", s, [][]int{{1, 1}, {2, 2}, {4, 2}}, miss{}, api.ErrNone)
	one := relief()
	one.Kinds[1].Have = 1
	if p, e := step.Plan(one); len(p) > 0 || e != api.ErrDown {
		t.Errorf("Plan with 1 fat = %v, %d", p, e)
	}
	if n, e := step.Barrier(one); n != 1 || e != api.OK {
		t.Errorf("Barrier with 1 fat = %d, %d", n, e)
	}
	if l, e := step.More(one); !slices.Equal(l, []int{-1, 1}) || e != api.OK {
		t.Errorf("More with 1 fat = %v, %d", l, e)
	}
	if r, e := step.Level(s, []int{4, 2}); r != span(3212, 3296) || e != api.OK {
		t.Errorf("Level of 4 and 2 = %v, %d", r, e)
	}
}

// P3.2: by hand, and against all truths that agree in all air.
func TestThickLevel(t *testing.T) {
	s := api.SpStack{Kinds: []api.SpKind{board("a", 20, 25, 3, 0), board("b", 7, 9, 0, 0)}, Air: span(4, 6)}
	if l, e := step.Thick(s); !slices.Equal(l, []api.Span{span(20, 25), span(7, 9)}) || e != api.OK {
		t.Errorf("Thick = %v, %d", l, e)
	}
	for _, o := range []struct {
		counts []int
		want   api.Span
	}{{[]int{0, 0}, span(0, 0)}, {[]int{1, 0}, span(32, 43)}, {[]int{0, 12}, span(84, 108)}, {[]int{12, 12}, span(468, 624)}} {
		if r, e := step.Level(s, o.counts); r != o.want || e != api.OK {
			t.Errorf("Level of %v = %v, %d", o.counts, r, e)
		}
	}
	// One of a and two of b were 46 in the air 2, so that is 40 in dry air: 22 and 9 each, or 24 and 8 each.
	s.Measures = []api.SpMeasure{was(46, 46, 2, 1, 2)}
	if l, e := step.Thick(s); !slices.Equal(l, []api.Span{span(22, 24), span(8, 9)}) || e != api.OK {
		t.Errorf("Thick = %v, %d", l, e)
	}
	if r, e := step.Level(s, []int{2, 4}); r != span(104, 116) || e != api.OK {
		t.Errorf("Level = %v, %d", r, e)
	}
	most := api.SpStack{Kinds: []api.SpKind{board("a", 5000, 5000, 50, 0), board("b", 5000, 5000, 50, 0), board("c", 5000, 5000, 50, 0)}, Air: span(100, 100)}
	if r, e := step.Level(most, []int{12, 12, 12}); r != span(360000, 360000) || e != api.OK {
		t.Errorf("Level of the most = %v, %d", r, e)
	}
	d := dice(1)
	for i := range 500 {
		s := d.mixed()
		list := truths(s)
		if len(list) == 0 {
			continue
		}
		spans, e := step.Thick(s)
		if len(spans) != len(s.Kinds) || e != api.OK {
			t.Fatalf("%d: %v: Thick = %v, %d", i, s, spans, e)
		}
		dry := clone(s)
		dry.Air = span(0, 0)
		for j := range s.Kinds {
			one := make([]int, len(s.Kinds))
			one[j] = 1
			if want := levels(dry, list, one); spans[j] != want {
				t.Errorf("%d: %v: Thick of %d = %v, not %v", i, s, j, spans[j], want)
			}
		}
		for range 10 {
			counts := d.counts(len(s.Kinds), 12)
			if r, e := step.Level(s, counts); r != levels(s, list, counts) || e != api.OK {
				t.Errorf("%d: %v: Level of %v = %v, %d, not %v", i, s, counts, r, e, levels(s, list, counts))
			}
		}
	}
}

// P3.2: the errors of counts come before ErrZero.
func TestErrorsOfCounts(t *testing.T) {
	for _, o := range []struct {
		counts []int
		e      api.Errno
	}{
		{nil, api.ErrLong}, {[]int{1}, api.ErrLong}, {[]int{-1, 13, 1}, api.ErrLong}, {make([]int, 1000), api.ErrLong},
		{[]int{-1, 0}, api.ErrRange}, {[]int{0, 13}, api.ErrRange}, {[]int{math.MinInt, 0}, api.ErrRange}, {[]int{0, math.MaxInt}, api.ErrRange},
		{[]int{0, 0}, api.OK}, {[]int{12, 12}, api.OK},
	} {
		r, e := step.Level(relief(), o.counts)
		if e != o.e || e != api.OK && r != span(0, 0) {
			t.Errorf("Level of %v = %v, %d", o.counts, r, e)
		}
		want := o.e
		if want == api.OK {
			want = api.ErrZero
		}
		if r, e := step.Level(contrary(), o.counts); r != span(0, 0) || e != want {
			t.Errorf("no truth: Level of %v = %v, %d", o.counts, r, e)
		}
	}
}

// ErrZero, if no truth agrees, of all but Wrong.
func TestZero(t *testing.T) {
	bare := contrary()
	bare.Bands = nil
	for _, s := range []api.SpStack{contrary(), bare, relief(was(0, 0, 0, 1, 0)), relief(was(3000, 3000, 100, 1, 1))} {
		checkNothing(t, "no truth", s, api.ErrZero)
		if l, e := step.Wrong(s); len(l) != 1 || e != api.OK {
			t.Errorf("%v: Wrong = %v, %d", s, l, e)
		}
		if r, e := step.Level(s, []int{1, 1}); r != span(0, 0) || e != api.ErrZero {
			t.Errorf("%v: Level = %v, %d", s, r, e)
		}
	}
	checkMiss(t, "no truth", bare, nil, miss{}, api.ErrZero)
	checkMiss(t, "no truth", contrary(), [][]int{{1, 1}, {2, 2}, {4, 2}}, miss{}, api.ErrZero)
	checkMiss(t, "no truth", contrary(), [][]int{{1, 1}, {2, 2}, {5, 2}}, miss{}, api.ErrZero)
	checkMiss(t, "no truth", contrary(), [][]int{{1, 1}, {2, 2}, {1, 2}}, miss{}, api.ErrArg)
}

// P3.3: by hand, and against all lists of measures.
func TestWrong(t *testing.T) {
	ten := func(measures ...api.SpMeasure) api.SpStack {
		return api.SpStack{Kinds: []api.SpKind{board("a", 8, 12, 1, 0)}, Measures: measures}
	}
	for i, o := range []struct {
		s    api.SpStack
		want []int
	}{
		{relief(), nil},
		{contrary(), []int{0}},
		{ten(), nil},
		{ten(was(9, 9, 0, 1)), nil},
		{ten(was(13, 14, 0, 1)), []int{0}},
		{ten(was(13, 14, 1, 1)), nil},
		{ten(was(9, 9, 0, 1), was(10, 10, 0, 1)), []int{0}},
		{ten(was(9, 9, 0, 1), was(10, 10, 0, 1), was(20, 20, 0, 2)), []int{0}},
		{ten(was(9, 9, 0, 1), was(10, 10, 0, 1), was(18, 18, 0, 2)), []int{1}},
		{ten(was(12, 12, 0, 1), was(9, 9, 0, 1), was(8, 8, 0, 1), was(12, 12, 0, 1), was(9, 9, 0, 1), was(8, 8, 0, 1)), []int{0, 1, 3, 4}},
		{ten(was(12, 12, 0, 1), was(9, 9, 0, 1), was(12, 12, 0, 1), was(9, 9, 0, 1)), []int{0, 2}},
		{ten(was(0, 0, 0, 1), was(1, 1, 0, 1), was(2, 2, 0, 1)), []int{0, 1, 2}},
	} {
		if l, e := step.Wrong(o.s); !slices.Equal(l, o.want) || e != api.OK {
			t.Errorf("%d: Wrong = %v, %d, not %v", i, l, e, o.want)
		}
	}
	d := dice(2)
	for i := range 500 {
		s := d.mixed()
		var want []int
		found := false
		for mask := range 1 << len(s.Measures) {
			var out []int
			for j := range s.Measures {
				if mask>>j&1 == 1 {
					out = append(out, j)
				}
			}
			better := !found || len(out) < len(want) || len(out) == len(want) && slices.Compare(out, want) < 0
			if better && len(truths(s, out...)) > 0 {
				want, found = out, true
			}
		}
		if l, e := step.Wrong(s); !slices.Equal(l, want) || e != api.OK {
			t.Errorf("%d: %v: Wrong = %v, %d, not %v", i, s, l, e, want)
		}
	}
}

// P3.4: by hand.
func TestPlan(t *testing.T) {
	wet := blocks(3, 3, span(13, 14))
	wet.Air, wet.Kinds[1].Grow = span(0, 2), 1
	either := blocks(3, 3, span(10, 13))
	either.Kinds[0].Thick.Hi = 13
	for i, o := range []struct {
		s       api.SpStack
		want    [][]int
		barrier int
		e       api.Errno
	}{
		{blocks(3, 3), nil, 0, api.OK},
		{blocks(0, 0), nil, 0, api.OK},
		{blocks(0, 0, span(1, 1000)), nil, 0, api.ErrDown},
		{blocks(1, 0, span(10, 10)), [][]int{{1, 0}}, 0, api.OK},
		{blocks(1, 0, span(11, 11)), nil, 0, api.ErrDown},
		{blocks(1, 0, span(9, 9)), nil, 0, api.ErrDown},
		{blocks(3, 4, span(9, 12)), [][]int{{1, 0}}, 0, api.OK},
		{blocks(0, 4, span(9, 12)), [][]int{{0, 3}}, 0, api.OK},
		// The fewest boards in the end, though fewer would do for the first band.
		{blocks(1, 10, span(9, 12), span(30, 30)), [][]int{{0, 3}, {0, 10}}, 0, api.OK},
		// All of 1 and 2 have 3 boards: that with the first counts.
		{blocks(3, 3, span(3, 12), span(16, 17)), [][]int{{0, 1}, {1, 2}}, 0, api.OK},
		// 12 threes are 36; 3 tens and 2 threes are, too.
		{blocks(3, 12, span(36, 36)), [][]int{{3, 2}}, 0, api.OK},
		// No board is taken away: with 3 threes the next band is not met.
		{blocks(2, 3, span(9, 9), span(20, 20)), nil, 1, api.ErrDown},
		{blocks(2, 3, span(9, 9), span(19, 19), span(29, 29)), [][]int{{0, 3}, {1, 3}, {2, 3}}, 0, api.OK},
		{blocks(2, 3, span(9, 9), span(19, 19), span(30, 400)), nil, 2, api.ErrDown},
		{blocks(2, 3, span(1, 2), span(3, 3)), nil, 0, api.ErrDown},
		{wet, nil, 0, api.ErrDown},
		{either, [][]int{{1, 0}}, 0, api.OK},
	} {
		if p, e := step.Plan(o.s); !samePlan(p, o.want) || e != o.e {
			t.Errorf("%d: Plan = %v, %d, not %v, %d", i, p, e, o.want, o.e)
		}
		want := api.OK
		if o.e == api.OK {
			want = api.ErrNone
		}
		if n, e := step.Barrier(o.s); n != o.barrier || e != want {
			t.Errorf("%d: Barrier = %d, %d, not %d, %d", i, n, e, o.barrier, want)
		}
	}
}

// P3.4: plans are compared band by band: the first one can have later last counts than others with as many boards.
func TestFirstPlan(t *testing.T) {
	s := api.SpStack{
		Kinds: []api.SpKind{board("six", 6, 6, 0, 4), board("five", 5, 5, 0, 4), board("four", 4, 4, 0, 4)},
		Bands: []api.Span{span(8, 10), span(14, 15)},
	}
	for i, want := range [][][]int{{{0, 0, 2}, {1, 0, 2}}, {{0, 1, 1}, {0, 2, 1}}, {{0, 2, 0}, {0, 2, 1}}} {
		s.Bands[0].Lo = 8 + i
		if p, e := step.Plan(s); !samePlan(p, want) || e != api.OK {
			t.Errorf("%v: Plan = %v, %d, not %v", s.Bands, p, e, want)
		}
	}
}

// P3.4: against all plans of small stacks.
func TestPlanTried(t *testing.T) {
	d := dice(3)
	found, down := 0, 0
	for i := range 1500 {
		s := d.mixed()
		if len(truths(s)) == 0 {
			continue
		}
		r := try(s)
		p, e := step.Plan(s)
		n, f := step.Barrier(s)
		if r.is {
			found++
			if !samePlan(p, r.plan) || e != api.OK || n != 0 || f != api.ErrNone {
				t.Errorf("%d: %v: Plan = %v, %d, not %v; Barrier = %d, %d", i, s, p, e, r.plan, n, f)
			}
			continue
		}
		down++
		if len(p) > 0 || e != api.ErrDown || n != r.met || f != api.OK {
			t.Errorf("%d: %v: Plan = %v, %d; Barrier = %d, %d, not %d", i, s, p, e, n, f, r.met)
		}
	}
	if found < 300 || down < 300 {
		t.Errorf("%d plans, and %d stacks without one: too few for a test", found, down)
	}
}

// P3.5: the errors of plans.
func TestErrorsOfPlans(t *testing.T) {
	for _, o := range []struct {
		plan [][]int
		e    api.Errno
	}{
		{nil, api.ErrLong}, {[][]int{{1, 1}, {2, 2}}, api.ErrLong}, {[][]int{{9}, {9}, {9}, {9}}, api.ErrLong}, {make([][]int, 1000), api.ErrLong},
		{make([][]int, 3), api.ErrLong}, {[][]int{{1, 1}, {2, 2}, {4}}, api.ErrLong}, {[][]int{{1, 1}, {0, 2, 0}, {-1, 2}}, api.ErrLong},
		{[][]int{{1, 1}, {2, 2}, {7, 2}}, api.ErrRange}, {[][]int{{1, 1}, {2, 5}, {4}}, api.ErrRange}, {[][]int{{-1, 1}, {2, 2}, {4, 2}}, api.ErrRange},
		{[][]int{{1, 1}, {2, math.MaxInt}, {4, 2}}, api.ErrRange}, {[][]int{{1, 1}, {-1, 0}, {4, 2}}, api.ErrRange},
		{[][]int{{1, 1}, {0, 2}, {4}}, api.ErrArg}, {[][]int{{1, 1}, {2, 2}, {4, 1}}, api.ErrArg}, {[][]int{{6, 4}, {5, 4}, {7, 4}}, api.ErrArg},
		{[][]int{{1, 1}, {0, 2}, {0, 2}}, api.ErrArg},
	} {
		checkMiss(t, "S", relief(), o.plan, miss{}, o.e)
		checkMiss(t, "no truth", contrary(), o.plan, miss{}, o.e)
	}
	checkMiss(t, "no bands", blocks(1, 1), [][]int{{0, 0}}, miss{}, api.ErrLong)
	checkMiss(t, "no bands", blocks(1, 1), [][]int{}, miss{}, api.ErrNone)
}

// P3.5: by hand.
func TestBad(t *testing.T) {
	s := api.SpStack{Kinds: []api.SpKind{board("a", 10, 12, 1, 4), board("b", 5, 6, 0, 4)}, Air: span(1, 4), Bands: []api.Span{span(20, 27), span(40, 45)}}
	checkMiss(t, "too high", s, [][]int{{2, 0}, {4, 0}}, miss{0, []int{10, 5}, 4, 28}, api.OK)
	checkMiss(t, "too low", s, [][]int{{1, 0}, {4, 0}}, miss{0, []int{10, 5}, 1, 11}, api.OK)
	checkMiss(t, "too high in the last truth", s, [][]int{{1, 2}, {2, 2}}, miss{0, []int{12, 6}, 4, 28}, api.OK)
	s.Bands[0].Hi = 28
	checkMiss(t, "too low for the second", s, [][]int{{1, 2}, {2, 2}}, miss{1, []int{10, 5}, 1, 32}, api.OK)
	s.Bands[0] = span(21, 29)
	checkMiss(t, "too high for the second", s, [][]int{{1, 2}, {1, 4}}, miss{1, []int{10, 5}, 1, 31}, api.OK)
	s.Bands[1] = span(31, 38)
	checkMiss(t, "in a later truth", s, [][]int{{1, 2}, {1, 4}}, miss{1, []int{11, 6}, 4, 39}, api.OK)
	s.Bands[1].Hi = 40
	checkMiss(t, "good", s, [][]int{{1, 2}, {1, 4}}, miss{}, api.ErrNone)
	s.Measures = []api.SpMeasure{was(11, 11, 0, 1, 0)}
	s.Bands[1] = span(32, 38)
	checkMiss(t, "of just the truths that agree", s, [][]int{{1, 2}, {1, 4}}, miss{1, []int{11, 6}, 4, 39}, api.OK)
	s.Bands[1] = span(32, 39)
	checkMiss(t, "good in those that agree", s, [][]int{{1, 2}, {1, 4}}, miss{}, api.ErrNone)
	checkMiss(t, "nothing", s, [][]int{{0, 0}, {0, 0}}, miss{0, []int{11, 5}, 1, 0}, api.OK)
}

// P3.6: by hand, and against all plans of small stacks.
func TestMore(t *testing.T) {
	for i, o := range []struct {
		s    api.SpStack
		want []int
	}{
		{blocks(0, 0), []int{0, 0}},
		{blocks(0, 0, span(20, 20)), []int{2, -1}},
		{blocks(0, 0, span(30, 30)), []int{3, 10}},
		{blocks(1, 2, span(30, 30)), []int{2, 8}},
		{blocks(3, 2, span(30, 30)), []int{0, 0}},
		{blocks(0, 0, span(36, 36)), []int{-1, 12}},
		{blocks(0, 0, span(39, 39)), []int{-1, -1}},
		{blocks(0, 0, span(120, 120)), []int{12, -1}},
		{blocks(0, 0, span(121, 129)), []int{-1, -1}},
		{blocks(0, 0, span(3, 3), span(13, 13)), []int{-1, -1}},
		{blocks(1, 0, span(3, 3), span(13, 13)), []int{-1, 1}},
		{blocks(0, 1, span(3, 3), span(13, 13)), []int{1, -1}},
		{blocks(12, 12, span(3, 3), span(13, 13)), []int{0, 0}},
		{blocks(12, 12, span(1, 2)), []int{-1, -1}},
	} {
		if l, e := step.More(o.s); !slices.Equal(l, o.want) || e != api.OK {
			t.Errorf("%d: More = %v, %d, not %v", i, l, e, o.want)
		}
	}
	d := dice(4)
	for i := range 300 {
		s := d.mixed()
		list := truths(s)
		if len(list) == 0 {
			continue
		}
		more, e := step.More(s)
		if len(more) != len(s.Kinds) || e != api.OK {
			t.Fatalf("%d: %v: More = %v, %d", i, s, more, e)
		}
		for j := range s.Kinds {
			want := -1
			for have := s.Kinds[j].Have; want < 0 && have <= 12; have++ {
				other := clone(s)
				other.Kinds[j].Have = have
				for range good(other, list, len(s.Bands)) {
					want = have - s.Kinds[j].Have
					break
				}
			}
			if more[j] != want {
				t.Errorf("%d: %v: More of %d = %d, not %d", i, s, j, more[j], want)
			}
		}
	}
}
