package tile_test

import (
	"math"
	"slices"
	"strings"
	"testing"

	"hachure/api"
	"hachure/tile"
)

// fault is a change of the sample, and what Check says of it.
type fault struct {
	what     string
	change   func(h *api.TiHall)
	part, at int
	e        api.Errno
}

// air returns a change of Air.
func air(lo, hi int) func(h *api.TiHall) {
	return func(h *api.TiHall) { h.Air = span(lo, hi) }
}

// most returns a change of Most.
func most(n int) func(h *api.TiHall) {
	return func(h *api.TiHall) { h.Most = n }
}

// named returns a change of the Name of one tile.
func named(i int, name string) func(h *api.TiHall) {
	return func(h *api.TiHall) { h.Tiles[i].Name = name }
}

// width returns a change of the Width of one tile.
func width(i, lo, hi int) func(h *api.TiHall) {
	return func(h *api.TiHall) { h.Tiles[i].Width = span(lo, hi) }
}

// swell returns a change of the Swell of one tile.
func swell(i, lo, hi int) func(h *api.TiHall) {
	return func(h *api.TiHall) { h.Tiles[i].Swell = span(lo, hi) }
}

// laid returns a change of one row.
func laid(i, frame, swell, places int) func(h *api.TiHall) {
	return func(h *api.TiHall) { h.Rows[i] = row(frame, swell, places) }
}

// all returns all changes, one after the other.
func all(changes ...func(h *api.TiHall)) func(h *api.TiHall) {
	return func(h *api.TiHall) {
		for _, change := range changes {
			change(h)
		}
	}
}

// noTiles and noRows are changes to none, and tiles and rows return changes to so many, which are all wrong.
func noTiles(h *api.TiHall) { h.Tiles = nil }

func noRows(h *api.TiHall) { h.Rows = nil }

func tiles(many int) func(h *api.TiHall) {
	return func(h *api.TiHall) { h.Tiles = make([]api.TiTile, many) }
}

func rows(many int) func(h *api.TiHall) {
	return func(h *api.TiHall) { h.Rows = make([]api.TiRow, many) }
}

// hallFaults are those of Air and Most, and of how many tiles and rows there are.
func hallFaults() []fault {
	big, small := math.MaxInt, math.MinInt
	greatest := func(h *api.TiHall) { *h = greatestHall() }
	return []fault{
		{"the sample", all(), 0, 0, api.OK},
		{"the greatest hall", greatest, 0, 0, api.OK},
		{"an Air below 0", air(-1, 5), 1, 0, api.ErrRange},
		{"an Air too great", air(38, 41), 1, 0, api.ErrRange},
		{"an Air too great, Lo above Hi", air(41, 40), 1, 0, api.ErrRange},
		{"an Air below 0, Lo above Hi", air(0, -1), 1, 0, api.ErrRange},
		{"an Air of any int", air(small, big), 1, 0, api.ErrRange},
		{"an Air of any int, turned", air(big, small), 1, 0, api.ErrRange},
		{"an Air with Lo above Hi", air(6, 5), 1, 0, api.ErrArg},
		{"an Air far turned", air(40, 0), 1, 0, api.ErrArg},
		{"an Air too wide", air(3, 16), 1, 0, api.ErrArg},
		{"the widest Air", air(3, 15), 0, 0, api.OK},
		{"the driest Air", air(0, 0), 0, 0, api.OK},
		{"the wettest Air", air(28, 40), 0, 0, api.OK},
		{"a Most below 0", most(-1), 1, 0, api.ErrRange},
		{"a Most too great", most(20001), 1, 0, api.ErrRange},
		{"the least int as Most", most(small), 1, 0, api.ErrRange},
		{"the greatest int as Most", most(big), 1, 0, api.ErrRange},
		{"a Most of 0", most(0), 0, 0, api.OK},
		{"the greatest Most", most(20000), 0, 0, api.OK},
		{"a Most too great, and an Air too wide", all(most(20001), air(3, 16)), 1, 0, api.ErrRange},
		{"no tiles", noTiles, 1, 0, api.ErrLong},
		{"no tiles, but a list", func(h *api.TiHall) { h.Tiles = h.Tiles[:0] }, 1, 0, api.ErrLong},
		{"nine tiles, all wrong", tiles(9), 1, 0, api.ErrLong},
		{"eight tiles, all wrong", tiles(8), 2, 0, api.ErrForm},
		{"no rows", noRows, 1, 0, api.ErrLong},
		{"no rows, but a list", func(h *api.TiHall) { h.Rows = h.Rows[:0] }, 1, 0, api.ErrLong},
		{"four rows, all wrong", rows(4), 1, 0, api.ErrLong},
		{"three rows, all wrong", rows(3), 3, 0, api.ErrRange},
		{"four rows, and a wrong tile", all(rows(4), named(0, "")), 1, 0, api.ErrLong},
		{"three rows, all wrong, and a wrong tile", all(rows(3), named(3, "")), 2, 3, api.ErrForm},
		{"no tiles, and an Air too wide", all(noTiles, air(3, 16)), 1, 0, api.ErrArg},
		{"no rows, and an Air too great", all(noRows, air(3, 41)), 1, 0, api.ErrRange},
		{"no rows, and a Most too great", all(noRows, most(20001)), 1, 0, api.ErrRange},
		{"a wrong tile, and an Air with Lo above Hi", all(named(0, ""), air(6, 5)), 1, 0, api.ErrArg},
		{"a wrong row, and a Most below 0", all(laid(0, 0, 0, 0), most(-1)), 1, 0, api.ErrRange},
	}
}

// nameFaults are those of names.
func nameFaults() []fault {
	worse := func(i int, name string) func(h *api.TiHall) {
		return func(h *api.TiHall) { h.Tiles[i] = tileOf(name, span(0, 99), span(9, 0)) }
	}
	return []fault{
		{"no name, and all else wrong", worse(1, ""), 2, 1, api.ErrForm},
		{"a name with a capital", named(0, "A"), 2, 0, api.ErrForm},
		{"a name with a digit ahead", named(0, "1a"), 2, 0, api.ErrForm},
		{"a name with a space", named(3, "old d"), 2, 3, api.ErrForm},
		{"a name with a letter of another alphabet", named(1, "bø"), 2, 1, api.ErrForm},
		{"a long name", named(2, strings.Repeat("c", 17)), 2, 2, api.ErrForm},
		{"the longest name", named(2, strings.Repeat("c", 16)), 0, 0, api.OK},
		{"a name with a digit and a hyphen", named(1, "b-2"), 0, 0, api.OK},
		{"a name twice, and all else wrong", worse(3, "a"), 2, 3, api.ErrTwice},
		{"a name twice, one after the other", named(2, "b"), 2, 2, api.ErrTwice},
		{"a name twice, but the first tile is wrong", all(named(2, "b"), swell(0, 1, 0)), 2, 0, api.ErrArg},
		{"two names twice", all(named(2, "b"), named(3, "a")), 2, 2, api.ErrTwice},
	}
}

// tileFaults are those of the numbers of tiles.
func tileFaults() []fault {
	big, small := math.MaxInt, math.MinInt
	return []fault{
		{"a Width of 0", width(0, 0, 1), 2, 0, api.ErrRange},
		{"a Width below 0", width(1, -1, 5), 2, 1, api.ErrRange},
		{"a Width whose Hi is 0", width(1, 1, 0), 2, 1, api.ErrRange},
		{"a Width too great", width(3, 20000, 20001), 2, 3, api.ErrRange},
		{"a Width whose Lo is too great", width(3, 20001, 20000), 2, 3, api.ErrRange},
		{"a Width of any int", width(1, small, big), 2, 1, api.ErrRange},
		{"a Width of any int, turned", width(1, big, small), 2, 1, api.ErrRange},
		{"a Width with Lo above Hi", width(0, 1001, 1000), 2, 0, api.ErrArg},
		{"a Width far turned", width(0, 20000, 1), 2, 0, api.ErrArg},
		{"a Width too wide", width(2, 1000, 1011), 2, 2, api.ErrArg},
		{"the widest Width", width(2, 1000, 1010), 0, 0, api.OK},
		{"the least Width", width(0, 1, 1), 0, 0, api.OK},
		{"the greatest Width", width(0, 19990, 20000), 0, 0, api.OK},
		{"a Swell below 0", swell(0, -1, 1), 2, 0, api.ErrRange},
		{"a Swell whose Hi is below 0", swell(0, 0, -1), 2, 0, api.ErrRange},
		{"a Swell too great", swell(1, 20, 21), 2, 1, api.ErrRange},
		{"a Swell whose Lo is too great", swell(1, 21, 20), 2, 1, api.ErrRange},
		{"a Swell of any int", swell(1, small, big), 2, 1, api.ErrRange},
		{"a Swell with Lo above Hi", swell(0, 1, 0), 2, 0, api.ErrArg},
		{"a Swell too wide", swell(3, 2, 6), 2, 3, api.ErrArg},
		{"the widest Swell", swell(3, 2, 5), 0, 0, api.OK},
		{"no Swell", swell(3, 0, 0), 0, 0, api.OK},
		{"the greatest Swell", swell(1, 17, 20), 0, 0, api.OK},
		{"a Width too wide, and a Swell too great", all(width(0, 1, 20), swell(0, 20, 21)), 2, 0, api.ErrRange},
		{"a Swell too wide, and a Width too great", all(width(0, 1, 20001), swell(0, 0, 4)), 2, 0, api.ErrRange},
		{"the first tile decides", all(width(1, 2, 1), named(2, "")), 2, 1, api.ErrArg},
		{"tiles come before rows", all(width(3, 2, 1), laid(0, -1, 0, 0)), 2, 3, api.ErrArg},
	}
}

// rowFaults are those of rows.
func rowFaults() []fault {
	big, small := math.MaxInt, math.MinInt
	third := func(places int) func(h *api.TiHall) {
		return func(h *api.TiHall) { h.Rows = append(h.Rows, row(5, 5, places)) }
	}
	return []fault{
		{"a Frame below 0", laid(0, -1, 0, 1), 3, 0, api.ErrRange},
		{"a Frame too great", laid(1, 200001, 0, 1), 3, 1, api.ErrRange},
		{"the least int as Frame", laid(1, small, 0, 1), 3, 1, api.ErrRange},
		{"the greatest int as Frame", laid(1, big, 0, 1), 3, 1, api.ErrRange},
		{"a Frame of 0", laid(0, 0, 0, 1), 0, 0, api.OK},
		{"the greatest Frame", laid(0, 200000, 0, 1), 0, 0, api.OK},
		{"a Swell below 0", laid(0, 5, -1, 1), 3, 0, api.ErrRange},
		{"a Swell too great", laid(1, 5, 161, 1), 3, 1, api.ErrRange},
		{"the least int as Swell", laid(1, 5, small, 1), 3, 1, api.ErrRange},
		{"the greatest int as Swell", laid(1, 5, big, 1), 3, 1, api.ErrRange},
		{"the greatest Swell of a row", laid(1, 5, 160, 1), 0, 0, api.OK},
		{"no Places", laid(0, 5, 5, 0), 3, 0, api.ErrRange},
		{"Places below 0", laid(1, 5, 5, -1), 3, 1, api.ErrRange},
		{"more Places than tiles", laid(1, 5, 5, 5), 3, 1, api.ErrRange},
		{"the least int as Places", laid(1, 5, 5, small), 3, 1, api.ErrRange},
		{"the greatest int as Places", laid(1, 5, 5, big), 3, 1, api.ErrRange},
		{"all tiles in one row", func(h *api.TiHall) { h.Rows = []api.TiRow{row(5, 5, 4)} }, 0, 0, api.OK},
		{"all tiles in two rows", laid(1, 5, 5, 2), 0, 0, api.OK},
		{"all tiles in three rows", third(1), 0, 0, api.OK},
		{"too many Places in two rows", laid(1, 5, 5, 3), 3, 1, api.ErrLong},
		{"too many Places in two rows, the first has all", laid(0, 5, 5, 4), 3, 1, api.ErrLong},
		{"too many Places in three rows", third(2), 3, 2, api.ErrLong},
		{"too many Places, and a Frame too great", laid(1, 200001, 0, 3), 3, 1, api.ErrRange},
		{"too many Places, and a Swell too great", laid(1, 0, 161, 3), 3, 1, api.ErrRange},
		{"the first row decides", all(laid(1, 5, 5, 3), third(0)), 3, 1, api.ErrLong},
		{"the first row decides again", all(laid(0, 5, 5, 5), laid(1, 5, 5, 5)), 3, 0, api.ErrRange},
	}
}

// P8.1: each part, the order of errors, and that all other functions return the error first.
func TestCheck(t *testing.T) {
	for _, f := range slices.Concat(hallFaults(), nameFaults(), tileFaults(), rowFaults()) {
		h := sample()
		f.change(&h)
		part, at, e := tile.Check(h)
		if part != f.part || at != f.at || e != f.e {
			t.Errorf("%s: Check = %d, %d, %d, not %d, %d, %d", f.what, part, at, e, f.part, f.at, f.e)
		}
		if f.e == api.OK {
			checkSeen(t, f.what, h, nil, 0, api.OK)
			continue
		}
		tooMany := make([]api.TiSeen, 7)
		for _, seen := range [][]api.TiSeen{nil, s(), tooMany, {was(0, 0, 5, 5), was(9, 41, 9, 0)}} {
			checkSeen(t, f.what, h, seen, 0, f.e)
			checkErrors(t, f.what, h, seen, f.e)
		}
	}
}

// checkErrors checks that each function but both that check returns an error before its own ones, and nothing else with it.
func checkErrors(t *testing.T, what string, h api.TiHall, seen []api.TiSeen, e api.Errno) {
	t.Helper()
	for _, n := range []int{-1, 0, 40, 41, 99} {
		checkWidth(t, what, h, seen, 0, n, api.Span{}, e)
		checkWidth(t, what, h, seen, n, 0, api.Span{}, e)
	}
	for _, row := range []int{-1, 0, 1, 99} {
		for _, tiles := range [][]int{nil, {0}, {0, 2}, {2, 0}, {-1, 99}} {
			checkRow(t, what, h, seen, row, tiles, e)
		}
	}
	checkLay(t, what, h, seen, nil, 0, e)
	checkMust(t, what, h, seen, nil, e)
}

// checkRow checks that all functions with a row and its tiles return an error, and nothing else with it.
func checkRow(t *testing.T, what string, h api.TiHall, seen []api.TiSeen, row int, tiles []int, e api.Errno) {
	t.Helper()
	checkGap(t, what, h, seen, row, tiles, api.Span{}, e)
	checkWhy(t, what, h, seen, row, tiles, 0, 0, e)
	checkAirs(t, what, h, seen, row, tiles, api.Span{}, e)
}

func checkSeen(t *testing.T, what string, h api.TiHall, seen []api.TiSeen, at int, e api.Errno) {
	t.Helper()
	if n, f := tile.CheckSeen(h, seen); n != at || f != e {
		t.Errorf("%s: CheckSeen of %v, %v = %d, %d, not %d, %d", what, h, seen, n, f, at, e)
	}
}

func checkWidth(t *testing.T, what string, h api.TiHall, seen []api.TiSeen, of, air int, want api.Span, e api.Errno) {
	t.Helper()
	if got, f := tile.Width(h, seen, of, air); got != want || f != e {
		t.Errorf("%s: Width of %v, %v, %d, %d = %v, %d, not %v, %d", what, h, seen, of, air, got, f, want, e)
	}
}

func checkGap(t *testing.T, what string, h api.TiHall, seen []api.TiSeen, row int, tiles []int, want api.Span, e api.Errno) {
	t.Helper()
	if got, f := tile.Gap(h, seen, row, tiles); got != want || f != e {
		t.Errorf("%s: Gap of %v, %v, %d, %v = %v, %d, not %v, %d", what, h, seen, row, tiles, got, f, want, e)
	}
}

func checkWhy(t *testing.T, what string, h api.TiHall, seen []api.TiSeen, row int, tiles []int, why, air int, e api.Errno) {
	t.Helper()
	if w, a, f := tile.Why(h, seen, row, tiles); w != why || a != air || f != e {
		t.Errorf("%s: Why of %v, %v, %d, %v = %d, %d, %d, not %d, %d, %d", what, h, seen, row, tiles, w, a, f, why, air, e)
	}
}

func checkAirs(t *testing.T, what string, h api.TiHall, seen []api.TiSeen, row int, tiles []int, want api.Span, e api.Errno) {
	t.Helper()
	if got, f := tile.Airs(h, seen, row, tiles); got != want || f != e {
		t.Errorf("%s: Airs of %v, %v, %d, %v = %v, %d, not %v, %d", what, h, seen, row, tiles, got, f, want, e)
	}
}

func checkLay(t *testing.T, what string, h api.TiHall, seen []api.TiSeen, rows [][]int, gap int, e api.Errno) {
	t.Helper()
	if r, g, f := tile.Lay(h, seen); !equal(r, rows) || g != gap || f != e {
		t.Errorf("%s: Lay of %v, %v = %v, %d, %d, not %v, %d, %d", what, h, seen, r, g, f, rows, gap, e)
	}
}

func checkMust(t *testing.T, what string, h api.TiHall, seen []api.TiSeen, want []int, e api.Errno) {
	t.Helper()
	if got, f := tile.Must(h, seen); !slices.Equal(got, want) || f != e {
		t.Errorf("%s: Must of %v, %v = %v, %d, not %v, %d", what, h, seen, got, f, want, e)
	}
}

// The examples of the chapter, and the eighth one of the document.
func TestExamples(t *testing.T) {
	h, a, b, c, d := sample(), 0, 1, 2, 3
	checkWidth(t, "H", h, nil, a, 12, span(1012, 1014), api.OK)
	checkWidth(t, "H with S", h, s(), a, 12, span(1012, 1012), api.OK)
	checkGap(t, "H", h, nil, 0, []int{a, c}, span(1, 7), api.OK)
	checkGap(t, "H with S", h, s(), 0, []int{a, c}, span(3, 7), api.OK)
	checkGap(t, "H", h, nil, 1, []int{a}, span(8, 10), api.OK)
	checkGap(t, "H", h, nil, 1, []int{b}, span(15, 17), api.OK)
	checkWhy(t, "H", h, nil, 0, []int{a, c}, api.TiFits, 0, api.OK)
	checkWhy(t, "H", h, nil, 0, []int{c, d}, api.TiTight, 11, api.OK)
	checkWhy(t, "H", h, nil, 1, []int{b}, api.TiWide, 10, api.OK)
	checkAirs(t, "H", h, nil, 0, []int{a, c}, span(8, 12), api.OK)
	checkAirs(t, "H", h, nil, 1, []int{d}, span(0, 40), api.OK)
	checkAirs(t, "H", h, nil, 1, []int{b}, span(0, 7), api.OK)
	checkLay(t, "H", h, nil, [][]int{{a, c}, {d}}, 7, api.OK)
	checkMust(t, "H", h, nil, nil, api.OK)
	h.Most = 9
	checkMust(t, "H with the Most 9", h, nil, []int{a, c, d}, api.OK)
	h.Air = span(12, 12)
	checkGap(t, "H in the air 12", h, nil, 0, []int{a, c}, span(1, 3), api.OK)
}

// P8.2: each error, the first tile with one, and that all other functions return it first.
func TestCheckSeen(t *testing.T) {
	big, small := math.MaxInt, math.MinInt
	good := was(0, 20, 1000, 1050)
	for _, o := range []struct {
		what string
		seen []api.TiSeen
		at   int
		e    api.Errno
	}{
		{"nothing", nil, 0, api.OK},
		{"six", slices.Repeat([]api.TiSeen{good}, 6), 0, api.OK},
		{"seven", slices.Repeat([]api.TiSeen{good}, 7), 0, api.ErrLong},
		{"seven, all wrong", slices.Repeat([]api.TiSeen{was(-1, -1, -1, -1)}, 7), 0, api.ErrLong},
		{"the last tile", []api.TiSeen{good, was(3, 0, 0, 40000)}, 0, api.OK},
		{"a Tile below 0, and all else wrong", []api.TiSeen{was(-1, -1, 40001, -1)}, 0, api.ErrNone},
		{"a Tile too great", []api.TiSeen{good, was(4, 0, 5, 5)}, 1, api.ErrNone},
		{"the least int as Tile", []api.TiSeen{good, good, was(small, 0, 5, 5)}, 2, api.ErrNone},
		{"the greatest int as Tile", []api.TiSeen{good, good, was(big, 0, 5, 5)}, 2, api.ErrNone},
		{"an Air below 0", []api.TiSeen{was(0, -1, 5, 5)}, 0, api.ErrRange},
		{"an Air too great", []api.TiSeen{good, was(0, 41, 5, 5)}, 1, api.ErrRange},
		{"an Air too great, and a Width with Lo above Hi", []api.TiSeen{good, was(0, 41, 6, 5)}, 1, api.ErrRange},
		{"the least int as Air", []api.TiSeen{was(0, small, 5, 5)}, 0, api.ErrRange},
		{"the greatest int as Air", []api.TiSeen{was(0, big, 5, 5)}, 0, api.ErrRange},
		{"the wettest Air, which is not that of the hall", []api.TiSeen{was(0, 40, 1040, 1042)}, 0, api.OK},
		{"a Width below 0", []api.TiSeen{good, was(0, 0, -1, 5)}, 1, api.ErrRange},
		{"a Width whose Hi is below 0", []api.TiSeen{good, was(0, 0, 0, -1)}, 1, api.ErrRange},
		{"a Width too great", []api.TiSeen{good, was(0, 0, 0, 40001)}, 1, api.ErrRange},
		{"a Width whose Lo is too great", []api.TiSeen{good, was(0, 0, 40001, 40000)}, 1, api.ErrRange},
		{"a Width of any int", []api.TiSeen{was(0, 0, big, small)}, 0, api.ErrRange},
		{"a Width with Lo above Hi", []api.TiSeen{good, good, good, was(0, 0, 6, 5)}, 3, api.ErrArg},
		{"a Width far turned", []api.TiSeen{good, was(0, 0, 40000, 0)}, 1, api.ErrArg},
		{"the widest Width", []api.TiSeen{was(0, 0, 0, 40000)}, 0, api.OK},
		{"the least Width", []api.TiSeen{was(0, 0, 0, 0)}, 0, api.OK},
		{"the greatest Width", []api.TiSeen{was(0, 0, 40000, 40000)}, 0, api.OK},
		{"the first one decides", []api.TiSeen{good, was(0, 0, 6, 5), was(9, 0, 6, 5)}, 1, api.ErrArg},
		{"the first one decides again", []api.TiSeen{good, was(9, 0, 6, 5), was(0, 0, -1, 5)}, 1, api.ErrNone},
		{"the last one", append(slices.Repeat([]api.TiSeen{good}, 5), was(0, 0, -1, 5)), 5, api.ErrRange},
	} {
		checkSeen(t, o.what, sample(), o.seen, o.at, o.e)
		if o.e != api.OK {
			checkErrors(t, o.what, sample(), o.seen, o.e)
		}
	}
}

// P8.3: the errors, in their order.
func TestWidthErrors(t *testing.T) {
	h := sample()
	for _, seen := range [][]api.TiSeen{nil, contrary()} {
		for _, n := range []int{-1, 4, 99, math.MinInt, math.MaxInt} {
			checkWidth(t, "no tile", h, seen, n, 0, api.Span{}, api.ErrNone)
			checkWidth(t, "no tile, no air", h, seen, n, 41, api.Span{}, api.ErrNone)
		}
		for _, n := range []int{-1, 41, 99, math.MinInt, math.MaxInt} {
			checkWidth(t, "no air", h, seen, 0, n, api.Span{}, api.ErrRange)
			checkWidth(t, "no air", h, seen, 3, n, api.Span{}, api.ErrRange)
		}
	}
	for i := range 4 {
		checkWidth(t, "no truth", h, contrary(), i, 0, api.Span{}, api.ErrDown)
		checkWidth(t, "no truth", h, contrary(), i, 40, api.Span{}, api.ErrDown)
	}
	checkWidth(t, "the driest air", h, nil, 0, 0, span(1000, 1002), api.OK)
	checkWidth(t, "the wettest air", h, nil, 3, 40, span(1046, 1046), api.OK)
}

// P8.4: the errors, in their order.
func TestRowErrors(t *testing.T) {
	h, big, small := sample(), math.MaxInt, math.MinInt
	for _, o := range []struct {
		what  string
		row   int
		tiles []int
		e     api.Errno
	}{
		{"a row below 0", -1, []int{0, 1}, api.ErrNone},
		{"a row too great", 2, []int{0, 1}, api.ErrNone},
		{"the least int as row", small, []int{0, 1}, api.ErrNone},
		{"the greatest int as row", big, []int{0, 1}, api.ErrNone},
		{"no row, and tiles that are wrong", 2, []int{9, 8, 7}, api.ErrNone},
		{"no tiles", 0, nil, api.ErrLong},
		{"too few tiles", 0, []int{0}, api.ErrLong},
		{"too many tiles", 0, []int{0, 1, 2}, api.ErrLong},
		{"too many tiles for the last row", 1, []int{0, 1}, api.ErrLong},
		{"too many tiles, none an index, not ascending", 0, []int{9, 8, -7}, api.ErrLong},
		{"a tile below 0", 0, []int{-1, 1}, api.ErrNone},
		{"a tile too great", 0, []int{1, 4}, api.ErrNone},
		{"the least int as tile", 1, []int{small}, api.ErrNone},
		{"the greatest int as tile", 1, []int{big}, api.ErrNone},
		{"a tile too great, and not ascending", 0, []int{4, 1}, api.ErrNone},
		{"a tile below 0, and not ascending", 0, []int{3, -1}, api.ErrNone},
		{"tiles that are not ascending", 0, []int{2, 1}, api.ErrArg},
		{"a tile twice", 0, []int{2, 2}, api.ErrArg},
	} {
		checkRow(t, o.what, h, nil, o.row, o.tiles, o.e)
		checkRow(t, o.what+", no truth", h, contrary(), o.row, o.tiles, o.e)
	}
	checkRow(t, "no truth, by a tile of the row", h, contrary(), 0, []int{0, 1}, api.ErrDown)
	checkRow(t, "no truth, by another tile", h, contrary(), 1, []int{2}, api.ErrDown)
	wide := exact(0, []api.TiRow{row(5, 0, 4), row(5, 0, 1)}, 1, 1, 1, 1, 1)
	checkRow(t, "the last two are not ascending", wide, nil, 0, []int{0, 1, 3, 2}, api.ErrArg)
	checkRow(t, "the last one is above the first one alone", wide, nil, 0, []int{0, 2, 3, 1}, api.ErrArg)
	checkRow(t, "a tile twice in the middle", wide, nil, 0, []int{0, 2, 2, 4}, api.ErrArg)
	checkGap(t, "ascending", wide, nil, 0, []int{0, 1, 3, 4}, span(1, 1), api.OK)
}

// P8.3, P8.4: what is seen of a tile, by hand.
func TestSeen(t *testing.T) {
	h := api.TiHall{Air: span(10, 10), Most: 50, Tiles: []api.TiTile{
		tileOf("a", span(100, 110), span(1, 4)), tileOf("b", span(50, 50), span(2, 3))},
		Rows: []api.TiRow{row(240, 0, 2)}}
	both := []int{0, 1}
	checkWidth(t, "nothing seen", h, nil, 0, 10, span(110, 150), api.OK)
	checkGap(t, "nothing seen", h, nil, 0, both, span(10, 60), api.OK)
	checkWhy(t, "nothing seen", h, nil, 0, both, api.TiWide, 10, api.OK)
	// In dry air a is 105 to 107 wide.
	seen := []api.TiSeen{was(0, 0, 105, 107)}
	checkWidth(t, "seen in dry air", h, seen, 0, 10, span(115, 147), api.OK)
	checkWidth(t, "seen in dry air", h, seen, 1, 10, span(70, 80), api.OK)
	checkGap(t, "seen in dry air", h, seen, 0, both, span(13, 55), api.OK)
	// It swells by 3 then, as 2 would lead to 187 at most, and 4 to 265 at least.
	seen = append(seen, was(0, 40, 226, 228))
	checkWidth(t, "seen twice", h, seen, 0, 0, span(106, 107), api.OK)
	checkWidth(t, "seen twice", h, seen, 0, 10, span(136, 137), api.OK)
	checkWhy(t, "seen twice", h, seen, 0, both, api.TiFits, 0, api.OK)
	checkWidth(t, "b is seen", h, append(seen, was(1, 1, 53, 60)), 1, 10, span(80, 80), api.OK)
	checkGap(t, "b is seen", h, append(seen, was(1, 1, 53, 60)), 0, both, span(23, 24), api.OK)
	checkWidth(t, "no truth", h, append(seen, was(0, 20, 168, 200)), 0, 0, api.Span{}, api.ErrDown)
}

// P8.4: why tiles do not fit, and the air in which they are neither too tight nor too wide, by hand.
func TestWhyByHand(t *testing.T) {
	loose := func(frame, swell, most int) api.TiHall {
		h := exact(most, []api.TiRow{row(frame, swell, 1)}, 100)
		h.Tiles[0].Width.Hi, h.Tiles[0].Swell = 102, span(2, 2)
		h.Air = span(4, 8)
		return h
	}
	for _, o := range []struct {
		what               string
		frame, swell, most int
		gap                api.Span
		why, air           int
		airs               api.Span
		e                  api.Errno
	}{
		{"just as wide as can be, just not too wide", 118, 0, 10, span(0, 10), api.TiFits, 0, span(4, 8), api.OK},
		{"too tight by 1 in the last air", 117, 0, 10, span(-1, 9), api.TiTight, 8, span(4, 7), api.OK},
		{"too wide by 1 in the first air", 118, 0, 9, span(0, 10), api.TiWide, 4, span(5, 8), api.OK},
		{"too wide at first, too tight at last", 117, 0, 8, span(-1, 9), api.TiWide, 4, span(5, 7), api.OK},
		{"in all air too tight", 100, 2, 9, span(-2, 0), api.TiTight, 4, api.Span{}, api.ErrZero},
		{"in all air too wide", 110, 2, 9, span(8, 10), api.TiWide, 4, api.Span{}, api.ErrZero},
		{"in all air both", 101, 2, 0, span(-1, 1), api.TiTight, 4, api.Span{}, api.ErrZero},
		{"in no air", 102, 2, 2, span(0, 2), api.TiFits, 0, span(0, 40), api.OK},
		{"in one air neither", 114, 0, 2, span(-4, 6), api.TiWide, 4, span(6, 6), api.OK},
		{"in one air the other one than in the next one", 113, 0, 2, span(-5, 5), api.TiWide, 4, api.Span{}, api.ErrZero},
		{"too wide in the last air", 106, 4, 20, span(12, 22), api.TiWide, 8, span(0, 7), api.OK},
		{"too tight in the first air", 93, 4, 20, span(-1, 9), api.TiTight, 4, span(5, 13), api.OK},
		{"the air of the hall alone counts", 118, 0, 11, span(0, 10), api.TiFits, 0, span(4, 8), api.OK},
	} {
		h := loose(o.frame, o.swell, o.most)
		checkGap(t, o.what, h, nil, 0, []int{0}, o.gap, api.OK)
		checkWhy(t, o.what, h, nil, 0, []int{0}, o.why, o.air, api.OK)
		checkAirs(t, o.what, h, nil, 0, []int{0}, o.airs, o.e)
	}
}

// P8.3: what all truths of small halls say.
func TestWidth(t *testing.T) {
	d := dice(1)
	none, narrower := 0, 0
	for range 1500 {
		h := d.small()
		seen := d.odd(h, 6)
		for i := range h.Tiles {
			k, is := widths(h, seen, i)
			free, _ := widths(h, nil, i)
			for air, want := range k {
				if !is {
					checkWidth(t, "no truth", h, seen, i, air, api.Span{}, api.ErrDown)
					continue
				}
				checkWidth(t, "a tile", h, seen, i, air, want, api.OK)
				if want != free[air] {
					narrower++
				}
			}
			if !is {
				none++
			}
		}
	}
	if none < 200 || narrower < 20000 {
		t.Errorf("%d without truths, %d narrower: too few for a test", none, narrower)
	}
}

// P8.4: what all truths of small halls say.
func TestGapWhyAirs(t *testing.T) {
	d := dice(2)
	whys, zero, later := [3]int{}, 0, 0
	for range 4000 {
		h := d.small()
		seen := d.odd(h, 6)
		i := d.roll(len(h.Rows))
		tiles := d.tiles(h, i)
		k, is := gaps(h, seen, i, tiles)
		if !is {
			checkRow(t, "no truth", h, seen, i, tiles, api.ErrDown)
			continue
		}
		checkGap(t, "a row", h, seen, i, tiles, k.gap(h.Air), api.OK)
		why, air := k.why(h.Air, h.Most)
		checkWhy(t, "a row", h, seen, i, tiles, why, air, api.OK)
		whys[why]++
		if air > h.Air.Lo {
			later++
		}
		if airs := k.airs(h.Most); len(airs) > 0 {
			checkAirs(t, "a row", h, seen, i, tiles, span(airs[0], airs[len(airs)-1]), api.OK)
		} else {
			checkAirs(t, "a row", h, seen, i, tiles, api.Span{}, api.ErrZero)
			zero++
		}
	}
	if slices.Min(whys[:]) < 500 || zero < 300 || later < 60 {
		t.Errorf("%v reasons, %d in all air, %d in later air: too few for a test", whys, zero, later)
	}
}

// P8.5: by hand.
func TestLayByHand(t *testing.T) {
	two := []api.TiRow{row(20, 0, 2), row(10, 0, 1)}
	for _, o := range []struct {
		what string
		h    api.TiHall
		rows [][]int
		gap  int
		must []int
		e    api.Errno
	}{
		{"one tile, one row", exact(0, []api.TiRow{row(5, 0, 1)}, 5), [][]int{{0}}, 0, []int{0}, api.OK},
		{"one tile, too wide for the frame", exact(9, []api.TiRow{row(5, 0, 1)}, 6), nil, 0, nil, api.ErrZero},
		{"one tile, too narrow", exact(3, []api.TiRow{row(5, 0, 1)}, 1), nil, 0, nil, api.ErrZero},
		{"the widest of several", exact(9, []api.TiRow{row(5, 0, 1)}, 3, 5, 4), [][]int{{1}}, 0, nil, api.OK},
		{"the first of several as wide", exact(9, []api.TiRow{row(5, 0, 1)}, 2, 4, 4, 3), [][]int{{1}}, 1, nil, api.OK},
		{"one alone fits", exact(1, []api.TiRow{row(5, 0, 1)}, 6, 3, 4), [][]int{{2}}, 1, []int{2}, api.OK},
		{"the first tiles", exact(0, two, 10, 10, 10, 10), [][]int{{0, 1}, {2}}, 0, nil, api.OK},
		{"all tiles", exact(0, two, 10, 9, 11), [][]int{{1, 2}, {0}}, 0, []int{0, 1, 2}, api.OK},
		{"the greatest gap of a row counts", exact(5, two, 10, 6, 9, 10), [][]int{{0, 2}, {3}}, 1, nil, api.OK},
		{"a tile that is in the same row of each laying", exact(9, two, 5, 9, 3, 4), [][]int{{0, 1}, {3}}, 6, []int{1}, api.OK},
		{"tiles that are in each laying, in either row", exact(4, two, 8, 9, 20, 11), [][]int{{0, 3}, {1}}, 1, []int{0, 1, 3}, api.OK},
		{"no two rows, but each one of them", exact(0, two, 10, 10, 25), nil, 0, nil, api.ErrZero},
	} {
		checkLay(t, o.what, o.h, nil, o.rows, o.gap, o.e)
		checkMust(t, o.what, o.h, nil, o.must, o.e)
		none := []api.TiSeen{was(len(o.h.Tiles)-1, 7, 0, 0)}
		checkLay(t, o.what+", no truth", o.h, none, nil, 0, api.ErrDown)
		checkMust(t, o.what+", no truth", o.h, none, nil, api.ErrDown)
	}
}

// P8.5: the first of all layings with the least gap, and the tiles that are in each laying, against all of them.
func TestLayAndMust(t *testing.T) {
	d := dice(3)
	laid, must, none, ties := [4]int{}, [9]int{}, 0, 0
	for range 3000 {
		h := d.any()
		seen := d.odd(h, 6)
		if _, e := tile.Width(h, seen, 0, 0); e != api.OK {
			checkLay(t, "no truth", h, seen, nil, 0, api.ErrDown)
			checkMust(t, "no truth", h, seen, nil, api.ErrDown)
			continue
		}
		all := layings(h, seen)
		if len(all) == 0 {
			checkLay(t, "no laying", h, seen, nil, 0, api.ErrZero)
			checkMust(t, "no laying", h, seen, nil, api.ErrZero)
			none++
			continue
		}
		slices.SortFunc(all, func(a, b laying) int {
			if a.gap != b.gap {
				return a.gap - b.gap
			}
			return compare(a.rows, b.rows)
		})
		checkLay(t, "layings", h, seen, all[0].rows, all[0].gap, api.OK)
		var each []int
		for i := range h.Tiles {
			if !slices.ContainsFunc(all, func(l laying) bool { return !isIn(l.rows, i) }) {
				each = append(each, i)
			}
		}
		checkMust(t, "layings", h, seen, each, api.OK)
		laid[len(h.Rows)]++
		must[len(each)]++
		if len(all) > 1 && all[0].gap == all[1].gap {
			ties++
		}
	}
	if slices.Min(laid[1:]) < 100 || slices.Min(must[:4]) < 20 || none < 300 || ties < 100 {
		t.Errorf("%v layings by rows, %v by tiles in each, %d halls without, %d with several: too few for a test", laid, must, none, ties)
	}
}
