package sheet_test

import (
	"math"
	"slices"
	"strings"
	"testing"

	"hachure/api"
	"hachure/sheet"
)

// P1.1
func TestName(t *testing.T) {
	for _, s := range []string{"a", "z", "m5", "x-", "x--0", "tor", strings.Repeat("q", 16), "a" + strings.Repeat("9", 15)} {
		if !sheet.Name(s) {
			t.Errorf("%q is a name", s)
		}
	}
	for _, s := range []string{"", "-a", "0", "7a", "A", "aZ", "a b", " a", "a\n", "a\x00", "a_b", "a/b", "a:b", "a.b", "`", "{", "a\xff", "\u00e4", "a\u0430", strings.Repeat("q", 17), strings.Repeat("q", 1<<16)} {
		if sheet.Name(s) {
			t.Errorf("%q is no name", s)
		}
	}
}

// fault is a change of the sample, and what Check says of it.
type fault struct {
	what     string
	change   func(s *api.ShSheet)
	part, at int
	e        api.Errno
}

// sheetFaults are those of intervals and points.
func sheetFaults() []fault {
	return []fault{
		{"the sample", func(s *api.ShSheet) {}, 0, 0, api.OK},
		{"no interval", func(s *api.ShSheet) { s.Interval = 0 }, 1, 0, api.ErrRange},
		{"an interval below 0", func(s *api.ShSheet) { s.Interval = math.MinInt }, 1, 0, api.ErrRange},
		{"a great interval", func(s *api.ShSheet) { s.Interval, s.Points, s.Notes = 1001, nil, nil }, 1, 0, api.ErrRange},
		{"the greatest interval", func(s *api.ShSheet) { s.Interval, s.Notes[1].By = 1000, span(8, 9) }, 0, 0, api.OK},
		{"the least interval", func(s *api.ShSheet) { s.Interval, s.Notes[1].By = 1, span(8999, 9000) }, 0, 0, api.OK},
		{"no points", func(s *api.ShSheet) { s.Points = nil }, 2, 0, api.ErrLong},
		{"nine points, all wrong", func(s *api.ShSheet) { s.Points = make([]string, 9) }, 2, 0, api.ErrLong},
		{"eight points", func(s *api.ShSheet) { s.Points = append(s.Points, "e", "f", "g", "h") }, 0, 0, api.OK},
		{"one point, no notes", func(s *api.ShSheet) { s.Points, s.Notes = s.Points[:1], nil }, 0, 0, api.OK},
		{"no name", func(s *api.ShSheet) { s.Points[0] = "" }, 2, 0, api.ErrForm},
		{"twice, then no name", func(s *api.ShSheet) { s.Points[1], s.Points[2] = "tor", "" }, 2, 1, api.ErrTwice},
		{"no name, then twice", func(s *api.ShSheet) { s.Points[1], s.Points[2] = "", "tor" }, 2, 1, api.ErrForm},
		{"the last one twice", func(s *api.ShSheet) { s.Points[3] = "mere" }, 2, 3, api.ErrTwice},
		{"no name twice", func(s *api.ShSheet) { s.Points[2], s.Points[3] = "-", "-" }, 2, 2, api.ErrForm},
		{"points before notes", func(s *api.ShSheet) { s.Points[3], s.Notes = "tor", make([]api.ShNote, 13) }, 2, 3, api.ErrTwice},
	}
}

// noteFaults are those of notes.
func noteFaults() []fault {
	big, small := math.MaxInt, math.MinInt
	return []fault{
		{"13 notes, all wrong", func(s *api.ShSheet) { s.Notes = make([]api.ShNote, 13) }, 3, 0, api.ErrLong},
		{"12 notes", func(s *api.ShSheet) { s.Notes = slices.Repeat(s.Notes, 3) }, 0, 0, api.OK},
		{"a kind of 0", func(s *api.ShSheet) { s.Notes[2] = api.ShNote{A: -1} }, 3, 2, api.ErrForm},
		{"a kind of 5", func(s *api.ShSheet) { s.Notes[2].Kind = 5 }, 3, 2, api.ErrForm},
		{"a kind below 0", func(s *api.ShSheet) { s.Notes[2].Kind = -1 }, 3, 2, api.ErrForm},
		{"the first note decides", func(s *api.ShSheet) { s.Notes[1].By, s.Notes[2].Kind = span(1, 1), 0 }, 3, 1, api.ErrArg},
		{"A below 0", func(s *api.ShSheet) { s.Notes[0].A = -1 }, 3, 0, api.ErrNone},
		{"A too great", func(s *api.ShSheet) { s.Notes[0].A = 4 }, 3, 0, api.ErrNone},
		{"B too great, of a spot", func(s *api.ShSheet) { s.Notes[0].B = 4 }, 3, 0, api.ErrNone},
		{"B below 0, of a contour", func(s *api.ShSheet) { s.Notes[1].B, s.Notes[1].By.Lo = small, -1 }, 3, 1, api.ErrNone},
		{"B of a spot", func(s *api.ShSheet) { s.Notes[0].B, s.Notes[0].By.Lo = 3, -1 }, 3, 0, api.ErrArg},
		{"B of a contour", func(s *api.ShSheet) { s.Notes[1].B, s.Notes[1].By.Lo = 1, -1 }, 3, 1, api.ErrArg},
		{"B is A, of a lake", func(s *api.ShSheet) { s.Notes[2].B, s.Notes[2].By.Lo = 3, 1 }, 3, 2, api.ErrArg},
		{"B is A, of a slope", func(s *api.ShSheet) { s.Notes[3].B, s.Notes[3].By.Lo = 0, -9001 }, 3, 3, api.ErrArg},
		{"a spot of 0", func(s *api.ShSheet) { s.Notes[0].By = span(0, 0) }, 0, 0, api.OK},
		{"a spot of 9000", func(s *api.ShSheet) { s.Notes[0].By = span(9000, 9000) }, 0, 0, api.OK},
		{"a spot below 0", func(s *api.ShSheet) { s.Notes[0].By.Lo = -1 }, 3, 0, api.ErrRange},
		{"a spot too high", func(s *api.ShSheet) { s.Notes[0].By = span(9001, 1) }, 3, 0, api.ErrRange},
		{"a spot the wrong way", func(s *api.ShSheet) { s.Notes[0].By = span(1201, 1200) }, 3, 0, api.ErrArg},
		{"a contour from 0", func(s *api.ShSheet) { s.Notes[1].By = span(0, 90) }, 0, 0, api.OK},
		{"a contour too high", func(s *api.ShSheet) { s.Notes[1].By = span(0, 91) }, 3, 1, api.ErrRange},
		{"a contour below 0", func(s *api.ShSheet) { s.Notes[1].By = span(-1, 0) }, 3, 1, api.ErrRange},
		{"a contour far too high", func(s *api.ShSheet) { s.Notes[1].By = span(big, big) }, 3, 1, api.ErrRange},
		{"a contour that wraps to 0", func(s *api.ShSheet) { s.Interval, s.Notes[1].By = 2, span(0, small) }, 3, 1, api.ErrRange},
		{"a contour that wraps", func(s *api.ShSheet) { s.Interval, s.Notes[1].By = 4, span(0, math.MaxInt/2+2) }, 3, 1, api.ErrRange},
		{"a contour's Lo too high", func(s *api.ShSheet) { s.Notes[1].By = span(91, 90) }, 3, 1, api.ErrRange},
		{"a contour of one line", func(s *api.ShSheet) { s.Notes[1].By = span(90, 90) }, 3, 1, api.ErrArg},
		{"a contour the wrong way", func(s *api.ShSheet) { s.Notes[1].By = span(3, 2) }, 3, 1, api.ErrArg},
		{"a contour of 8999", func(s *api.ShSheet) { s.Interval, s.Notes[1].By = 9, span(999, 1000) }, 0, 0, api.OK},
		{"a contour of 9009", func(s *api.ShSheet) { s.Interval, s.Notes[1].By = 11, span(818, 819) }, 3, 1, api.ErrRange},
		{"a contour of 8998", func(s *api.ShSheet) { s.Interval, s.Notes[1].By = 11, span(817, 818) }, 0, 0, api.OK},
		{"a lake from -1", func(s *api.ShSheet) { s.Notes[2].By = span(-1, 0) }, 3, 2, api.ErrRange},
		{"a lake to 1", func(s *api.ShSheet) { s.Notes[2].By = span(0, 1) }, 3, 2, api.ErrRange},
		{"a slope of 9000", func(s *api.ShSheet) { s.Notes[3].By = span(-9000, 9000) }, 0, 0, api.OK},
		{"a slope too low", func(s *api.ShSheet) { s.Notes[3].By.Lo = -9001 }, 3, 3, api.ErrRange},
		{"a slope too high", func(s *api.ShSheet) { s.Notes[3].By = span(9001, 0) }, 3, 3, api.ErrRange},
		{"a slope the wrong way", func(s *api.ShSheet) { s.Notes[3].By = span(1, 0) }, 3, 3, api.ErrArg},
	}
}

// P1.1: parts, indices, errors, and which one comes first.
func TestCheck(t *testing.T) {
	for _, c := range append(sheetFaults(), noteFaults()...) {
		s := valley()
		c.change(&s)
		if part, at, e := sheet.Check(s); part != c.part || at != c.at || e != c.e {
			t.Errorf("%s: Check = %d, %d, %d", c.what, part, at, e)
		}
		checkErrors(t, c.what, s, c.e)
	}
}

// checkErrors checks that each function returns the error of Check first, and nothing else with it.
func checkErrors(t *testing.T, what string, s api.ShSheet, e api.Errno) {
	t.Helper()
	if e == api.OK {
		return
	}
	if is, f := sheet.Fits(s); is || f != e {
		t.Errorf("%s: Fits = %v, %d", what, is, f)
	}
	if l, f := sheet.Heights(s); len(l) > 0 || f != e {
		t.Errorf("%s: Heights = %v, %d", what, l, f)
	}
	if by, order, f := sheet.Apart(s, -1, 99); by != span(0, 0) || order != 0 || f != e {
		t.Errorf("%s: Apart = %v, %d, %d", what, by, order, f)
	}
	if l, f := sheet.Highest(s); len(l) > 0 || f != e {
		t.Errorf("%s: Highest = %v, %d", what, l, f)
	}
	if l, f := sheet.Proof(s); len(l) > 0 || f != e {
		t.Errorf("%s: Proof = %v, %d", what, l, f)
	}
	if l, f := sheet.Wrong(s); len(l) > 0 || f != e {
		t.Errorf("%s: Wrong = %v, %d", what, l, f)
	}
	if n, f := sheet.Wider(s); n != 0 || f != e {
		t.Errorf("%s: Wider = %d, %d", what, n, f)
	}
	if text, f := sheet.Write(s); text != "" || f != e {
		t.Errorf("%s: Write = %q, %d", what, text, f)
	}
}

// The examples of the chapter, and the first one of the document.
func TestExamples(t *testing.T) {
	gentle := valley(slope(1, 2, -40, -10))
	for _, c := range []struct {
		s    api.ShSheet
		want []api.Span
	}{
		{valley(), []api.Span{span(1180, 1200), span(900, 1000), span(880, 950), span(900, 1000)}},
		{gentle, []api.Span{span(1180, 1200), span(900, 940), span(910, 950), span(900, 940)}},
	} {
		if l, e := sheet.Heights(c.s); !slices.Equal(l, c.want) || e != api.OK {
			t.Errorf("Heights = %v, %d", l, e)
		}
	}
	for _, c := range []struct {
		s     api.ShSheet
		a, b  int
		want  api.Span
		order int
	}{
		{valley(), 0, 1, span(180, 300), api.ShHigher},
		{gentle, 2, 1, span(10, 40), api.ShHigher},
		{gentle, 1, 2, span(-40, -10), api.ShLower},
		{valley(), 3, 1, span(0, 0), api.ShLevel},
		{valley(), 1, 2, span(-50, 120), api.ShEither},
	} {
		if by, order, e := sheet.Apart(c.s, c.a, c.b); by != c.want || order != c.order || e != api.OK {
			t.Errorf("Apart of %d and %d = %v, %d, %d", c.a, c.b, by, order, e)
		}
	}
	if l, e := sheet.Highest(valley()); !slices.Equal(l, []int{0}) || e != api.OK {
		t.Errorf("Highest = %v, %d", l, e)
	}
	if l, e := sheet.Highest(part(valley(), []int{0}, false)); !slices.Equal(l, []int{0, 1, 3}) || e != api.OK {
		t.Errorf("Highest without the spot = %v, %d", l, e)
	}
	steep := valley(slope(1, 0, 0, 10))
	proof, e := sheet.Proof(steep)
	wrong, f := sheet.Wrong(steep)
	wider, g := sheet.Wider(steep)
	if !slices.Equal(proof, []int{0, 1, 4}) || !slices.Equal(wrong, []int{0}) || wider != 60 || e != api.OK || f != api.OK || g != api.OK {
		t.Errorf("Proof = %v, %d; Wrong = %v, %d; Wider = %d, %d", proof, e, wrong, f, wider, g)
	}
}

// P1.2, P1.3, P1.4: against all truths of small sheets.
func TestTruths(t *testing.T) {
	d := dice(1)
	fitting := 0
	for i := range 600 {
		s := d.small(d.roll(5))
		list := truths(s, 6)
		if len(list) > 0 {
			fitting++
		}
		if is, e := sheet.Fits(s); is != (len(list) > 0) || e != api.OK {
			t.Fatalf("%d: %v: Fits = %v, %d", i, s, is, e)
		}
		checkHeights(t, s, list)
		checkApart(t, s, list)
		checkHighest(t, s, list)
	}
	if fitting < 100 || fitting > 500 {
		t.Errorf("%d sheets of 600 fit: too few, or too many, for a test", fitting)
	}
}

func checkHeights(t *testing.T, s api.ShSheet, truths [][]int) {
	t.Helper()
	l, e := sheet.Heights(s)
	if len(truths) == 0 {
		if len(l) > 0 || e != api.ErrDown {
			t.Errorf("%v: Heights = %v, %d", s, l, e)
		}
		return
	}
	for a := range s.Points {
		lo, hi := truths[0][a], truths[0][a]
		for _, h := range truths {
			lo, hi = min(lo, h[a]), max(hi, h[a])
		}
		if e != api.OK || len(l) != len(s.Points) || l[a] != span(lo, hi) {
			t.Errorf("%v: Heights = %v, %d", s, l, e)
		}
	}
}

func checkApart(t *testing.T, s api.ShSheet, truths [][]int) {
	t.Helper()
	for a := range s.Points {
		for b := range s.Points {
			by, order, e := sheet.Apart(s, a, b)
			if len(truths) == 0 {
				if by != span(0, 0) || order != 0 || e != api.ErrDown {
					t.Errorf("%v: Apart = %v, %d, %d", s, by, order, e)
				}
				continue
			}
			want, higher, lower := span(9000, -9000), 0, 0
			for _, h := range truths {
				is := h[a] - h[b]
				want = span(min(want.Lo, is), max(want.Hi, is))
				if is > 0 {
					higher++
				}
				if is < 0 {
					lower++
				}
			}
			wanted := api.ShEither
			switch {
			case higher == len(truths):
				wanted = api.ShHigher
			case lower == len(truths):
				wanted = api.ShLower
			case higher == 0 && lower == 0:
				wanted = api.ShLevel
			}
			if by != want || order != wanted || e != api.OK {
				t.Errorf("%v: Apart of %d and %d = %v, %d, %d; truths: %v, %d", s, a, b, by, order, e, want, wanted)
			}
		}
	}
}

func checkHighest(t *testing.T, s api.ShSheet, truths [][]int) {
	t.Helper()
	var want []int
	for a := range s.Points {
		if slices.ContainsFunc(truths, func(h []int) bool { return h[a] == slices.Max(h) }) {
			want = append(want, a)
		}
	}
	l, e := sheet.Highest(s)
	if !slices.Equal(l, want) || (e == api.ErrDown) != (len(truths) == 0) || (e == api.OK) != (len(truths) > 0) {
		t.Errorf("%v: Highest = %v, %d; truths: %v", s, l, e, want)
	}
}

// P1.2, P1.4: heights are from 0 to MaxHeight, whatever notes say.
func TestLimits(t *testing.T) {
	for i, c := range []struct {
		s       api.ShSheet
		want    []api.Span
		highest []int
	}{
		{plain(), []api.Span{span(0, 9000), span(0, 9000), span(0, 9000)}, []int{0, 1, 2}},
		{plain(slope(0, 1, 9000, 9000)), []api.Span{span(9000, 9000), span(0, 0), span(0, 9000)}, []int{0, 2}},
		{plain(slope(0, 1, 8999, 9000)), []api.Span{span(8999, 9000), span(0, 1), span(0, 9000)}, []int{0, 2}},
		{plain(slope(0, 1, -9000, -8990), lake(1, 2)), []api.Span{span(0, 10), span(8990, 9000), span(8990, 9000)}, []int{1, 2}},
		{plain(contour(2, 4499, 4500)), []api.Span{span(0, 9000), span(0, 9000), span(8998, 9000)}, []int{0, 1, 2}},
		{plain(spot(0, 3, 3), spot(0, 3, 3), slope(1, 0, -3, -3)), []api.Span{span(3, 3), span(0, 0), span(0, 9000)}, []int{0, 2}},
	} {
		l, e := sheet.Heights(c.s)
		h, f := sheet.Highest(c.s)
		if !slices.Equal(l, c.want) || e != api.OK || !slices.Equal(h, c.highest) || f != api.OK {
			t.Errorf("%d: Heights = %v, %d; Highest = %v, %d", i, l, e, h, f)
		}
	}
	if fits(plain(slope(0, 1, 9000, 9000), slope(1, 2, 1, 1))) {
		t.Error("a point above MaxHeight fits")
	}
	if by, order, e := sheet.Apart(plain(), 0, 2); by != span(-9000, 9000) || order != api.ShEither || e != api.OK {
		t.Errorf("Apart = %v, %d, %d", by, order, e)
	}
	one := api.ShSheet{Interval: 1, Points: []string{"a"}}
	if l, e := sheet.Highest(one); !slices.Equal(l, []int{0}) || e != api.OK {
		t.Errorf("Highest of one point = %v, %d", l, e)
	}
}

// P1.3: the order of the errors of Apart, and order where one end is 0.
func TestApart(t *testing.T) {
	torn := plain(spot(0, 1, 1), spot(0, 2, 2))
	for i, c := range []struct {
		s     api.ShSheet
		a, b  int
		want  api.Span
		order int
		e     api.Errno
	}{
		{torn, 0, 3, span(0, 0), 0, api.ErrNone},
		{torn, -1, 0, span(0, 0), 0, api.ErrNone},
		{torn, 0, 0, span(0, 0), 0, api.ErrDown},
		{plain(), math.MaxInt, 0, span(0, 0), 0, api.ErrNone},
		{plain(), 0, math.MinInt, span(0, 0), 0, api.ErrNone},
		{plain(), 1, 1, span(0, 0), api.ShLevel, api.OK},
		{plain(slope(0, 1, 0, 7)), 0, 1, span(0, 7), api.ShEither, api.OK},
		{plain(slope(0, 1, 0, 7)), 1, 0, span(-7, 0), api.ShEither, api.OK},
		{plain(slope(0, 1, 1, 7)), 0, 1, span(1, 7), api.ShHigher, api.OK},
		{plain(slope(0, 1, 1, 7)), 1, 0, span(-7, -1), api.ShLower, api.OK},
		{plain(slope(0, 1, 0, 7), slope(1, 0, 0, 7)), 0, 1, span(0, 0), api.ShLevel, api.OK},
	} {
		if by, order, e := sheet.Apart(c.s, c.a, c.b); by != c.want || order != c.order || e != c.e {
			t.Errorf("%d: Apart = %v, %d, %d", i, by, order, e)
		}
	}
}

// P1.5, P1.11, P1.12: against all lists of notes.
func TestProofAndWrong(t *testing.T) {
	d := dice(2)
	torn := 0
	for i := range 300 {
		s := d.loose(d.roll(8))
		var proof, wrong []int
		proved, found := false, false
		for _, list := range lists(len(s.Notes)) {
			if _, is := lowest(part(s, list, true), 0); !is && !proved {
				proof, proved = list, true
			}
			if _, is := lowest(part(s, list, false), 0); is && !found {
				wrong, found = list, true
			}
		}
		want := api.ErrNone
		if proved {
			want, torn = api.OK, torn+1
		}
		if l, e := sheet.Proof(s); !slices.Equal(l, proof) || e != want {
			t.Errorf("%d: %v: Proof = %v, %d; lists: %v", i, s, l, e, proof)
		}
		if l, e := sheet.Wrong(s); !slices.Equal(l, wrong) || e != api.OK {
			t.Errorf("%d: %v: Wrong = %v, %d; lists: %v", i, s, l, e, wrong)
		}
	}
	if torn < 50 || torn > 250 {
		t.Errorf("%d sheets of 300 do not fit: too few, or too many, for a test", torn)
	}
}

// P1.5: the first of several lists, and lists of many notes.
func TestWhichList(t *testing.T) {
	for i, c := range []struct {
		s            api.ShSheet
		proof, wrong []int
	}{
		{plain(spot(1, 4, 4), spot(0, 1, 1), spot(0, 2, 2), spot(0, 3, 3)), []int{1, 2}, []int{1, 2}},
		{plain(spot(0, 1, 1), spot(0, 1, 1), spot(0, 2, 2), spot(0, 2, 2)), []int{0, 2}, []int{0, 1}},
		{plain(slope(0, 1, 1, 2), slope(1, 2, 1, 2), slope(2, 0, 1, 2), spot(0, 9, 9), spot(0, 8, 8)), []int{3, 4}, []int{0, 3}},
		{plain(slope(0, 1, 9000, 9000), slope(1, 2, 1, 1)), []int{0, 1}, []int{0}},
	} {
		l, e := sheet.Proof(c.s)
		w, f := sheet.Wrong(c.s)
		if !slices.Equal(l, c.proof) || e != api.OK || !slices.Equal(w, c.wrong) || f != api.OK {
			t.Errorf("%d: Proof = %v, %d; Wrong = %v, %d", i, l, e, w, f)
		}
	}
	round := api.ShSheet{Interval: 1, Points: []string{"a", "b", "c", "d", "e", "f", "g", "h"}}
	for i := range 8 {
		round.Notes = append(round.Notes, slope(i, (i+1)%8, 0, 1))
	}
	round.Notes[5].By = span(1, 1)
	all := []int{0, 1, 2, 3, 4, 5, 6, 7}
	if l, e := sheet.Proof(round); !slices.Equal(l, all) || e != api.OK {
		t.Errorf("Proof of a round of eight = %v, %d", l, e)
	}
	far := plain()
	for i := range 12 {
		far.Notes = append(far.Notes, spot(0, 2*i, 2*i))
	}
	if l, e := sheet.Wrong(far); !slices.Equal(l, []int{0, 1, 2, 3, 4, 5, 6, 7, 8, 9, 10}) || e != api.OK {
		t.Errorf("Wrong of twelve spots = %v, %d", l, e)
	}
}

// P1.6, P1.13: against truths that are found otherwise.
func TestWider(t *testing.T) {
	d := dice(3)
	for i := range 300 {
		s := d.loose(d.roll(8))
		want := 0
		for {
			if _, is := lowest(s, want); is {
				break
			}
			want++
		}
		if n, e := sheet.Wider(s); n != want || e != api.OK {
			t.Errorf("%d: %v: Wider = %d, %d; it is %d", i, s, n, e, want)
		}
	}
	for i, c := range []struct {
		s    api.ShSheet
		want int
	}{
		{plain(), 0},
		{plain(spot(0, 1, 1), spot(0, 2, 2)), 1},
		{plain(spot(0, 1, 1), spot(0, 5, 5)), 2},
		{plain(spot(0, 0, 0), spot(0, 9000, 9000)), 4500},
		{plain(lake(0, 1), slope(0, 1, 4, 5)), 2},
		{plain(lake(0, 1), slope(0, 1, 9000, 9000), slope(1, 0, 9000, 9000)), 9000},
		{plain(contour(0, 0, 1), contour(0, 3, 4)), 2},
		{plain(slope(0, 1, 9000, 9000), slope(1, 2, 9000, 9000)), 4500},
		{plain(slope(0, 1, 9000, 9000), spot(1, 7, 9)), 4},
	} {
		if n, e := sheet.Wider(c.s); n != c.want || e != api.OK {
			t.Errorf("%d: Wider = %d, %d", i, n, e)
		}
	}
}
