package sheet_test

import (
	"math"
	"slices"
	"testing"

	"hachure/api"
	"hachure/sheet"
)

// P1.8: what is told is so in a truth that the notes were made from.
func TestEveryTruth(t *testing.T) {
	d := dice(4)
	for i := range 300 {
		s, truth := d.tale(d.from(2, 8), d.roll(13), 0)
		if !isTruth(s, truth, 0) {
			t.Fatalf("%d: the test made no truth of %v: %v", i, s, truth)
		}
		heights, e := sheet.Heights(s)
		highest, f := sheet.Highest(s)
		if e != api.OK || f != api.OK || !fits(s) {
			t.Fatalf("%d: %v does not fit: %d, %d", i, s, e, f)
		}
		top := slices.Index(truth, slices.Max(truth))
		if !slices.Contains(highest, top) {
			t.Errorf("%d: %d is highest, not one of %v", i, top, highest)
		}
		for a, h := range truth {
			if h < heights[a].Lo || h > heights[a].Hi {
				t.Errorf("%d: %d is %d high, not %v", i, a, h, heights[a])
			}
			for b, k := range truth {
				by, order, e := sheet.Apart(s, a, b)
				is := h - k
				wrong := order == api.ShLower && is >= 0 || order == api.ShHigher && is <= 0 || order == api.ShLevel && is != 0
				if e != api.OK || is < by.Lo || is > by.Hi || wrong {
					t.Errorf("%d: Apart of %d and %d = %v, %d, %d, not %d", i, a, b, by, order, e, is)
				}
			}
		}
		wrong, g := sheet.Wrong(s)
		wider, h := sheet.Wider(s)
		if len(wrong) > 0 || wider != 0 || g != api.OK || h != api.OK {
			t.Errorf("%d: Wrong = %v, %d; Wider = %d, %d", i, wrong, g, wider, h)
		}
		if l, e := sheet.Proof(s); len(l) > 0 || e != api.ErrNone {
			t.Errorf("%d: Proof = %v, %d", i, l, e)
		}
	}
}

// P1.9: with just an end the sheet fits, beyond it it does not.
func TestReached(t *testing.T) {
	d := dice(5)
	for i := range 100 {
		s, _ := d.tale(d.from(2, 8), d.roll(12), 0)
		heights, _ := sheet.Heights(s)
		for a, by := range heights {
			for _, at := range []struct {
				height int
				fits   bool
			}{{by.Lo - 1, false}, {by.Lo, true}, {by.Hi, true}, {by.Hi + 1, false}} {
				if at.height >= 0 && at.height <= api.MaxHeight && fits(more(s, spot(a, at.height, at.height))) != at.fits {
					t.Errorf("%d: %v: at %d the height of %d is not as Heights says: %v", i, s, at.height, a, by)
				}
			}
		}
		a, b := 0, len(s.Points)-1
		by, _, _ := sheet.Apart(s, a, b)
		for _, at := range []struct {
			by   int
			fits bool
		}{{by.Lo - 1, false}, {by.Lo, true}, {by.Hi, true}, {by.Hi + 1, false}} {
			if at.by >= -api.MaxHeight && at.by <= api.MaxHeight && fits(more(s, slope(a, b, at.by, at.by))) != at.fits {
				t.Errorf("%d: %v: %d apart is not as Apart says: %v", i, s, at.by, by)
			}
		}
	}
}

// P1.10: one more note, no wider bound.
func TestOneMore(t *testing.T) {
	d := dice(6)
	inside := func(in, out api.Span) bool { return in.Lo >= out.Lo && in.Hi <= out.Hi }
	for i := range 300 {
		s := d.small(d.roll(3))
		m := more(s, d.note(3, 6))
		if !fits(m) {
			continue
		}
		before, _ := sheet.Heights(s)
		after, _ := sheet.Heights(m)
		for a := range before {
			if !inside(after[a], before[a]) {
				t.Errorf("%d: %v is wider than %v", i, after[a], before[a])
			}
			for b := range before {
				was, _, _ := sheet.Apart(s, a, b)
				is, _, _ := sheet.Apart(m, a, b)
				if !inside(is, was) {
					t.Errorf("%d: %v is wider than %v", i, is, was)
				}
			}
		}
	}
}

// P1.11, P1.12: the proof, and what is wrong, are as they have to be by themselves.
func TestProved(t *testing.T) {
	d := dice(7)
	for i := range 200 {
		s, _ := d.tale(d.from(2, 8), 8, 90)
		if fits(s) {
			continue
		}
		proof, e := sheet.Proof(s)
		wrong, f := sheet.Wrong(s)
		if e != api.OK || f != api.OK || fits(part(s, proof, true)) || !fits(part(s, wrong, false)) {
			t.Fatalf("%d: %v: Proof = %v, %d; Wrong = %v, %d", i, s, proof, e, wrong, f)
		}
		for at := range proof {
			if !fits(part(s, slices.Delete(slices.Clone(proof), at, at+1), true)) {
				t.Errorf("%d: %v: %v proves without %d", i, s, proof, proof[at])
			}
		}
		for _, list := range lists(len(s.Notes)) {
			if len(list) < len(proof) && !fits(part(s, list, true)) {
				t.Errorf("%d: %v: %v are fewer than %v", i, s, list, proof)
			}
			if len(list) < len(wrong) && fits(part(s, list, false)) {
				t.Errorf("%d: %v: %v are fewer than %v", i, s, list, wrong)
			}
		}
		if !slices.ContainsFunc(proof, func(n int) bool { return slices.Contains(wrong, n) }) {
			t.Errorf("%d: %v: no note of %v is one of %v", i, s, proof, wrong)
		}
	}
}

// widened is a sheet whose notes are wider, with spots and slopes in place of contours and lakes.
func widened(s api.ShSheet, wider int) api.ShSheet {
	s = clone(s)
	for i, n := range s.Notes {
		by, alone := needs(s, n, wider)
		if alone {
			s.Notes[i] = spot(n.A, max(0, by.Lo), min(api.MaxHeight, by.Hi))
			continue
		}
		s.Notes[i] = slope(n.A, n.B, max(-api.MaxHeight, by.Lo), min(api.MaxHeight, by.Hi))
	}
	return s
}

// P1.13: what Wider says is enough, less is not; and it is no more than what is wrong.
func TestWiderIsLeast(t *testing.T) {
	d := dice(8)
	for i := range 300 {
		off := d.roll(100)
		s, truth := d.tale(d.from(2, 8), d.roll(13), off)
		if !isTruth(s, truth, off) {
			t.Fatalf("%d: the test made notes that are wrong by more than %d", i, off)
		}
		n, e := sheet.Wider(s)
		if e != api.OK || n > off {
			t.Errorf("%d: %v: Wider = %d, %d; wrong by %d", i, s, n, e, off)
		}
		if !fits(widened(s, n)) || n > 0 && fits(widened(s, n-1)) {
			t.Errorf("%d: %v: Wider = %d is not the least", i, s, n)
		}
		if (n == 0) != fits(s) {
			t.Errorf("%d: %v: Wider = %d, Fits = %v", i, s, n, fits(s))
		}
	}
}

// P1.14: in any other order of notes, and with slopes the other way round, heights are the same.
func TestOrderOfNotes(t *testing.T) {
	d := dice(9)
	for i := range 300 {
		s, _ := d.tale(d.from(2, 8), d.roll(13), d.roll(2)*20)
		o := clone(s)
		for at := range o.Notes {
			with := d.roll(at + 1)
			o.Notes[at], o.Notes[with] = o.Notes[with], o.Notes[at]
		}
		for at, n := range o.Notes {
			if n.Kind == api.ShSlope && d.roll(2) == 0 {
				o.Notes[at] = slope(n.B, n.A, -n.By.Hi, -n.By.Lo)
			}
			if n.Kind == api.ShLake && d.roll(2) == 0 {
				o.Notes[at] = lake(n.B, n.A)
			}
		}
		was, e := sheet.Heights(s)
		is, f := sheet.Heights(o)
		wide, _ := sheet.Wider(s)
		wider, _ := sheet.Wider(o)
		if !slices.Equal(was, is) || e != f || wide != wider {
			t.Errorf("%d: %v: %v, %d, %d; %v: %v, %d, %d", i, s, was, e, wide, o, is, f, wider)
		}
	}
}

// P1.16: any arguments are accepted.
func TestAnyArguments(t *testing.T) {
	d := dice(10)
	odd := []int{math.MinInt, -9001, -9000, -1, 0, 1, 2, 3, 4, 5, 8, 1000, 9000, 9001, math.MaxInt}
	pick := func() int { return odd[d.roll(len(odd))] }
	names := []string{"", "a", "b", "c", "-", "\xff\xfe", "A"}
	for range 3000 {
		s := api.ShSheet{Interval: pick()}
		for range d.roll(10) {
			s.Points = append(s.Points, names[d.roll(len(names))])
		}
		for range d.roll(14) {
			s.Notes = append(s.Notes, api.ShNote{Kind: pick(), A: pick(), B: pick(), By: span(pick(), pick())})
		}
		if d.roll(2) == 0 {
			s.Interval, s.Points = d.from(1, 1000), []string{"a", "b", "c"}
		}
		_, _, e := sheet.Check(s)
		checkErrors(t, "odd numbers", s, e)
	}
	for range 3000 {
		text := make([]byte, d.roll(60))
		for i := range text {
			text[i] = byte(d.roll(256))
		}
		if s, e := sheet.Read(string(text)); e != api.ErrForm || !same(s, api.ShSheet{}) {
			t.Errorf("%q: Read = %v, %d", text, s, e)
		}
	}
}

// P1.16: no argument is modified, and a result is new memory.
func TestMemory(t *testing.T) {
	for _, s := range []api.ShSheet{valley(), valley(slope(1, 0, 0, 10))} {
		was := clone(s)
		h, _ := sheet.Heights(s)
		sheet.Apart(s, 0, 1)
		l, _ := sheet.Highest(s)
		p, _ := sheet.Proof(s)
		w, _ := sheet.Wrong(s)
		sheet.Wider(s)
		text, _ := sheet.Write(s)
		r, _ := sheet.Read(text)
		if !same(s, was) || !same(r, was) {
			t.Errorf("%v is %v", was, s)
		}
		for _, list := range [][]int{l, p, w} {
			for i := range list {
				list[i] = -1
			}
		}
		clear(h)
		clear(r.Points)
		clear(r.Notes)
		if !same(s, was) {
			t.Errorf("%v is %v after its results were changed", was, s)
		}
		again, _ := sheet.Highest(s)
		proof, _ := sheet.Proof(s)
		read, _ := sheet.Read(text)
		if slices.Contains(again, -1) || slices.Contains(proof, -1) || !same(read, was) {
			t.Errorf("later results changed: %v, %v, %v", again, proof, read)
		}
	}
}
