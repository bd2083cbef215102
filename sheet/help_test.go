package sheet_test

import (
	"slices"

	"hachure/api"
	"hachure/sheet"
)

func span(lo, hi int) api.Span { return api.Span{Lo: lo, Hi: hi} }

func spot(a, lo, hi int) api.ShNote { return api.ShNote{Kind: api.ShSpot, A: a, By: span(lo, hi)} }

func contour(a, lo, hi int) api.ShNote {
	return api.ShNote{Kind: api.ShContour, A: a, By: span(lo, hi)}
}

func lake(a, b int) api.ShNote { return api.ShNote{Kind: api.ShLake, A: a, B: b} }

func slope(a, b, lo, hi int) api.ShNote {
	return api.ShNote{Kind: api.ShSlope, A: a, B: b, By: span(lo, hi)}
}

// valley is S of the chapter's examples, with further notes.
func valley(further ...api.ShNote) api.ShSheet {
	notes := []api.ShNote{spot(0, 1180, 1200), contour(1, 9, 10), lake(3, 1), slope(0, 2, 250, 300)}
	return api.ShSheet{Interval: 100, Points: []string{"tor", "mere", "ford", "dam"}, Notes: append(notes, further...)}
}

// plain is a sheet of three points.
func plain(notes ...api.ShNote) api.ShSheet {
	return api.ShSheet{Interval: 2, Points: []string{"a", "b", "c"}, Notes: notes}
}

// more is a sheet with one more note.
func more(s api.ShSheet, n api.ShNote) api.ShSheet {
	s.Notes = append(slices.Clone(s.Notes), n)
	return s
}

// part is a sheet with the notes of a list alone, or without them.
func part(s api.ShSheet, list []int, in bool) api.ShSheet {
	var notes []api.ShNote
	for i, n := range s.Notes {
		if slices.Contains(list, i) == in {
			notes = append(notes, n)
		}
	}
	s.Notes = notes
	return s
}

func clone(s api.ShSheet) api.ShSheet {
	s.Points, s.Notes = slices.Clone(s.Points), slices.Clone(s.Notes)
	return s
}

func same(a, b api.ShSheet) bool {
	return a.Interval == b.Interval && slices.Equal(a.Points, b.Points) && slices.Equal(a.Notes, b.Notes)
}

// dice gives numbers that look random, and are the same in each run.
type dice uint64

func (d *dice) roll(n int) int {
	*d = *d*6364136223846793005 + 1442695040888963407
	return int(uint64(*d)>>33) % n
}

// from returns a number from lo to hi.
func (d *dice) from(lo, hi int) int { return lo + d.roll(hi-lo+1) }

// small returns a sheet of three points, each bound to heights from 0 to 6, with some further notes, of which several
// can contradict each other.
func (d *dice) small(further int) api.ShSheet {
	s := plain(spot(0, 0, 6), spot(1, 0, 6), spot(2, 0, 6))
	for range further {
		s.Notes = append(s.Notes, d.note(3, 6))
	}
	return s
}

// loose returns a sheet of three points with some notes.
func (d *dice) loose(notes int) api.ShSheet {
	s := plain()
	for range notes {
		s.Notes = append(s.Notes, d.note(3, 12))
	}
	return s
}

// note returns a note about some points, with heights up to most.
func (d *dice) note(points, most int) api.ShNote {
	a := d.roll(points)
	b := (a + 1 + d.roll(points-1)) % points
	switch d.roll(4) {
	case 0:
		lo := d.from(0, most)
		return spot(a, lo, d.from(lo, most))
	case 1:
		lo := d.from(0, most/2-1)
		return contour(a, lo, d.from(lo+1, most/2))
	case 2:
		return lake(a, b)
	}
	lo := d.from(-most, most)
	return slope(a, b, lo, min(lo+d.roll(5), most))
}

// tale returns a sheet, and heights that are all as its notes say, or wrong by at most off.
func (d *dice) tale(points, notes, off int) (api.ShSheet, []int) {
	s := api.ShSheet{Interval: d.from(1, 200), Points: []string{"a", "b", "c", "d", "e", "f", "g", "h"}[:points]}
	heights := make([]int, points)
	for i := range heights {
		heights[i] = d.from(100, 8000)
	}
	for range notes {
		a := d.roll(points)
		b := (a + 1 + d.roll(points-1)) % points
		shift := d.from(-off, off)
		at, by := heights[a]+shift, heights[a]-heights[b]+shift
		switch {
		case shift == 0 && d.roll(3) == 0:
			s.Notes = append(s.Notes, contour(a, at/s.Interval, at/s.Interval+1))
		case shift == 0 && by == 0:
			s.Notes = append(s.Notes, lake(a, b))
		case d.roll(2) == 0:
			s.Notes = append(s.Notes, spot(a, max(0, at-d.roll(50)), at+d.roll(50)))
		default:
			s.Notes = append(s.Notes, slope(a, b, by-d.roll(50), by+d.roll(50)))
		}
	}
	return s, heights
}

// needs returns between which numbers a note, wider by some decimetres, wants the height of A, less that of B (less 0,
// if it tells of A alone).
func needs(s api.ShSheet, n api.ShNote, wider int) (by api.Span, alone bool) {
	unit := 1
	if n.Kind == api.ShContour {
		unit = s.Interval
	}
	by = span(n.By.Lo*unit-wider, n.By.Hi*unit+wider)
	return by, n.Kind == api.ShSpot || n.Kind == api.ShContour
}

// isTruth reports whether heights are a truth of a sheet whose notes are wider.
func isTruth(s api.ShSheet, heights []int, wider int) bool {
	for _, h := range heights {
		if h < 0 || h > api.MaxHeight {
			return false
		}
	}
	for _, n := range s.Notes {
		by, alone := needs(s, n, wider)
		is := heights[n.A]
		if !alone {
			is -= heights[n.B]
		}
		if is < by.Lo || is > by.Hi {
			return false
		}
	}
	return true
}

// lowest finds a truth otherwise than the package does: it lifts points from 0 on, as far as the notes want.
func lowest(s api.ShSheet, wider int) (heights []int, fits bool) {
	heights = make([]int, len(s.Points))
	for lifted := true; lifted; {
		lifted = false
		lift := func(at, to int) {
			if heights[at] < to {
				heights[at], lifted = to, true
			}
		}
		for _, n := range s.Notes {
			by, alone := needs(s, n, wider)
			if alone {
				lift(n.A, by.Lo)
				continue
			}
			lift(n.A, heights[n.B]+by.Lo)
			lift(n.B, heights[n.A]-by.Hi)
		}
		if slices.Max(heights) > api.MaxHeight {
			return nil, false
		}
	}
	return heights, isTruth(s, heights, wider)
}

// truths returns all truths of a sheet of three points with heights up to most.
func truths(s api.ShSheet, most int) (list [][]int) {
	for a := range most + 1 {
		for b := range most + 1 {
			for c := range most + 1 {
				if isTruth(s, []int{a, b, c}, 0) {
					list = append(list, []int{a, b, c})
				}
			}
		}
	}
	return list
}

// lists returns all lists of the numbers 0 to n-1, the shortest ones first, then in order.
func lists(n int) [][]int {
	var all [][]int
	for mask := range 1 << n {
		var list []int
		for i := range n {
			if mask>>i&1 == 1 {
				list = append(list, i)
			}
		}
		all = append(all, list)
	}
	slices.SortFunc(all, func(a, b []int) int {
		if len(a) != len(b) {
			return len(a) - len(b)
		}
		return slices.Compare(a, b)
	})
	return all
}

// fits is what Fits says of a sheet without an error.
func fits(s api.ShSheet) bool {
	is, e := sheet.Fits(s)
	return is && e == api.OK
}
