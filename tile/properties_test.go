package tile_test

import (
	"math"
	"slices"
	"testing"

	"hachure/api"
	"hachure/tile"
)

// asked returns what a function returned, but stops the test if that is an error.
func asked[T any](t *testing.T, result T, e api.Errno) T {
	t.Helper()
	if e != api.OK {
		t.Fatalf("an error: %d", e)
	}
	return result
}

// widthOf returns the widths of a tile, gapOf the gaps of a row with some tiles.
func widthOf(t *testing.T, h api.TiHall, seen []api.TiSeen, i, air int) api.Span {
	t.Helper()
	s, e := tile.Width(h, seen, i, air)
	return asked(t, s, e)
}

func gapOf(t *testing.T, h api.TiHall, seen []api.TiSeen, row int, tiles []int) api.Span {
	t.Helper()
	s, e := tile.Gap(h, seen, row, tiles)
	return asked(t, s, e)
}

// whyOf returns why tiles do not fit, and in which air.
func whyOf(t *testing.T, h api.TiHall, seen []api.TiSeen, row int, tiles []int) (why, air int) {
	t.Helper()
	why, air, e := tile.Why(h, seen, row, tiles)
	return asked(t, why, e), air
}

// fits reports whether tiles fit.
func fits(t *testing.T, h api.TiHall, seen []api.TiSeen, row int, tiles []int) bool {
	t.Helper()
	why, _ := whyOf(t, h, seen, row, tiles)
	return why == api.TiFits
}

// layOf returns a laying, and whether there is one.
func layOf(t *testing.T, h api.TiHall, seen []api.TiSeen) (rows [][]int, gap int, is bool) {
	t.Helper()
	rows, gap, e := tile.Lay(h, seen)
	if e == api.ErrZero {
		return nil, 0, false
	}
	return asked(t, rows, e), gap, true
}

// off returns how far a gap is from those from 0 to Most: below 0 if it is too tight, above 0 if it is too wide.
func off(gap, most int) int { return min(gap, 0) + max(gap-most, 0) }

// P8.6: in any truth that agrees all is within what is told.
func TestEveryTruth(t *testing.T) {
	d := dice(4)
	for range 1500 {
		h := d.any()
		is := d.truth(h)
		seen := d.seen(h, is, d.roll(7), 4)
		for i := range h.Tiles {
			for _, air := range []int{0, d.roll(41), h.Air.Lo, 40} {
				if n := is.width(i, air); !has(widthOf(t, h, seen, i, air), n) {
					t.Errorf("%v, %v: Width of %d, %d does not have %d", h, seen, i, air, n)
				}
			}
		}
		for i, r := range h.Rows {
			tiles := d.tiles(h, i)
			gaps := gapOf(t, h, seen, i, tiles)
			for air := h.Air.Lo; air <= h.Air.Hi; air++ {
				if n := is.gap(r, tiles, air); !has(gaps, n) {
					t.Errorf("%v, %v: Gap of %d, %v does not have %d", h, seen, i, tiles, n)
				}
			}
		}
	}
}

// P8.7: both ends are reached, and what is beyond is not.
func TestReached(t *testing.T) {
	d := dice(5)
	for range 1500 {
		h := d.any()
		seen := d.seen(h, d.truth(h), d.roll(6), 4)
		i, air := d.roll(len(h.Tiles)), d.roll(41)
		s := widthOf(t, h, seen, i, air)
		with := func(lo, hi int) []api.TiSeen { return append(slices.Clone(seen), was(i, air, lo, hi)) }
		checkWidth(t, "the least width", h, with(s.Lo, s.Lo), i, air, span(s.Lo, s.Lo), api.OK)
		checkWidth(t, "the greatest width", h, with(s.Hi, s.Hi), i, air, span(s.Hi, s.Hi), api.OK)
		checkWidth(t, "less", h, with(s.Lo-1, s.Lo-1), i, air, api.Span{}, api.ErrDown)
		checkWidth(t, "any that is less", h, with(0, s.Lo-1), i, air, api.Span{}, api.ErrDown)
		checkWidth(t, "more", h, with(s.Hi+1, s.Hi+1), i, air, api.Span{}, api.ErrDown)
		checkWidth(t, "any that is more", h, with(s.Hi+1, 40000), i, air, api.Span{}, api.ErrDown)
	}
}

// P8.8: tiles that fit join in each truth and any air of the hall; others do not in some truth in the air that is told, and
// in no earlier one.
func TestJoined(t *testing.T) {
	d := dice(6)
	fit, not := 0, 0
	for range 2500 {
		h := d.small()
		seen := d.seen(h, d.truth(h), d.roll(7), 4)
		i := d.roll(len(h.Rows))
		tiles := d.tiles(h, i)
		why, at := whyOf(t, h, seen, i, tiles)
		tight, wide := [41]bool{}, [41]bool{}
		for is := range truths(h, seen) {
			for air := range tight {
				o := off(is.gap(h.Rows[i], tiles, air), h.Most)
				tight[air], wide[air] = tight[air] || o < 0, wide[air] || o > 0
			}
		}
		last := at - 1
		if why == api.TiFits {
			last = h.Air.Hi
			fit++
		} else if not++; !has(h.Air, at) || (why == api.TiTight) != tight[at] || why == api.TiWide && !wide[at] {
			t.Errorf("%v, %v: Why of %d, %v = %d, %d, but too tight: %v, too wide: %v", h, seen, i, tiles, why, at, tight[at], wide[at])
		}
		for air := h.Air.Lo; air <= last; air++ {
			if tight[air] || wide[air] {
				t.Errorf("%v, %v: Why of %d, %v = %d, %d, but in %d too tight: %v, too wide: %v", h, seen, i, tiles, why, at, air, tight[air], wide[air])
			}
		}
	}
	if fit < 400 || not < 400 {
		t.Errorf("%d that fit, %d that do not: too few for a test", fit, not)
	}
}

// P8.9: the rows are a laying with its gap, and no laying has a lesser one.
func TestLaid(t *testing.T) {
	d := dice(7)
	many := 0
	for range 1500 {
		h := d.hall(d.from(1, 6), d.from(1, 3), 4, 1)
		seen := d.seen(h, d.truth(h), d.roll(7), 4)
		least := -1
		for rows := range sets(h) {
			gap := 0
			for i, tiles := range rows {
				if !fits(t, h, seen, i, tiles) {
					gap = -1
					break
				}
				gap = max(gap, gapOf(t, h, seen, i, tiles).Hi)
			}
			if gap >= 0 && (least < 0 || gap < least) {
				least = gap
			}
		}
		rows, gap, is := layOf(t, h, seen)
		if !is {
			if least >= 0 {
				t.Errorf("%v, %v: no laying, but one with the gap %d", h, seen, least)
			}
			continue
		}
		many++
		if least >= 0 && gap > least {
			t.Errorf("%v, %v: Lay = %v, %d, but there is one with %d", h, seen, rows, gap, least)
		}
		checkLaying(t, h, seen, rows, gap)
	}
	if many < 300 {
		t.Errorf("%d layings: too few for a test", many)
	}
}

// checkLaying checks that rows are a laying with some gap.
func checkLaying(t *testing.T, h api.TiHall, seen []api.TiSeen, rows [][]int, gap int) {
	t.Helper()
	greatest, used := 0, map[int]bool{}
	for i, tiles := range rows {
		if len(tiles) != h.Rows[i].Places || !slices.IsSorted(tiles) || !fits(t, h, seen, i, tiles) {
			t.Errorf("%v, %v: the row %d of %v does not fit", h, seen, i, rows)
			return
		}
		greatest = max(greatest, gapOf(t, h, seen, i, tiles).Hi)
		for _, n := range tiles {
			if used[n] {
				t.Errorf("%v, %v: the tile %d is in two rows of %v", h, seen, n, rows)
			}
			used[n] = true
		}
	}
	if len(rows) != len(h.Rows) || greatest != gap {
		t.Errorf("%v, %v: %v is no laying with the gap %d", h, seen, rows, gap)
	}
}

// without returns a hall without some tile, and what is seen of the others.
func without(h api.TiHall, seen []api.TiSeen, i int) (api.TiHall, []api.TiSeen) {
	h.Tiles = slices.Delete(slices.Clone(h.Tiles), i, i+1)
	var left []api.TiSeen
	for _, s := range seen {
		if s.Tile > i {
			s.Tile--
			left = append(left, s)
		} else if s.Tile < i {
			left = append(left, s)
		}
	}
	return h, left
}

// P8.10: without a tile of Must there is no laying, without another one there is.
func TestMust(t *testing.T) {
	d := dice(8)
	needed, other, few := 0, 0, 0
	for range 3000 {
		h := d.any()
		seen := d.seen(h, d.truth(h), d.roll(7), 4)
		must, e := tile.Must(h, seen)
		if _, _, is := layOf(t, h, seen); is != (e == api.OK) {
			t.Errorf("%v, %v: Must = %v, %d, but a laying: %v", h, seen, must, e, is)
		}
		if e != api.OK {
			continue
		}
		for i := range h.Tiles {
			less, left := without(h, seen, i)
			_, _, e := tile.Lay(less, left)
			if _, _, wrong := tile.Check(less); wrong != api.OK {
				e = api.ErrZero // There are not as many tiles as places.
				few++
			}
			if slices.Contains(must, i) != (e == api.ErrZero) || e != api.OK && e != api.ErrZero {
				t.Errorf("%v, %v: Must = %v; without %d: %d", h, seen, must, i, e)
			}
			if e == api.OK {
				other++
			} else {
				needed++
			}
		}
	}
	if needed-few < 100 || other < 1000 || few < 100 {
		t.Errorf("%d in each laying, %d of them as there are no more, %d that are not: too few for a test", needed, few, other)
	}
}

// P8.11: in the air that is told, and in no other one.
func TestAir(t *testing.T) {
	d := dice(9)
	many, no := 0, 0
	for range 1500 {
		h := d.any()
		seen := d.seen(h, d.truth(h), d.roll(7), 4)
		i := d.roll(len(h.Rows))
		tiles := d.tiles(h, i)
		airs, e := tile.Airs(h, seen, i, tiles)
		if e != api.OK {
			airs = span(99, 99)
			no++
		} else {
			many++
		}
		if fits(t, h, seen, i, tiles) != inside(airs, h.Air) {
			t.Errorf("%v, %v: Airs of %d, %v = %v", h, seen, i, tiles, airs)
		}
		for air := range 41 {
			other := h
			other.Air = span(air, air)
			if fits(t, other, seen, i, tiles) != has(airs, air) {
				t.Errorf("%v, %v: Airs of %d, %v = %v, which is wrong in %d", h, seen, i, tiles, airs, air)
			}
		}
		other := h
		other.Air = span(d.roll(41), 40)
		other.Air.Hi = min(40, other.Air.Lo+d.roll(13))
		if now, f := tile.Airs(other, seen, i, tiles); f != e || e == api.OK && now != airs {
			t.Errorf("%v, %v: Airs of %d, %v = %v, %d; in %v: %v, %d", h, seen, i, tiles, airs, e, other.Air, now, f)
		}
	}
	if many < 300 || no < 300 {
		t.Errorf("%d with some air, %d with none: too few for a test", many, no)
	}
}

// P8.12: one more tile that is seen.
func TestOneMore(t *testing.T) {
	d := dice(10)
	narrower, now, less := 0, 0, 0
	for range 2000 {
		h := d.any()
		is := d.truth(h)
		seen := d.seen(h, is, d.roll(6), 4)
		more := append(slices.Clone(seen), d.seen(h, is, 1, 2)...)
		for i := range h.Tiles {
			air := d.roll(41)
			a, b := widthOf(t, h, seen, i, air), widthOf(t, h, more, i, air)
			if !inside(a, b) {
				t.Errorf("%v, %v: Width of %d, %d = %v; %v: %v", h, seen, i, air, a, more, b)
			}
			if a != b {
				narrower++
			}
		}
		i := d.roll(len(h.Rows))
		tiles := d.tiles(h, i)
		if a, b := gapOf(t, h, seen, i, tiles), gapOf(t, h, more, i, tiles); !inside(a, b) {
			t.Errorf("%v, %v: Gap of %d, %v = %v; %v: %v", h, seen, i, tiles, a, more, b)
		}
		before, after := fits(t, h, seen, i, tiles), fits(t, h, more, i, tiles)
		if before && !after {
			t.Errorf("%v, %v: %v fit; %v: they do not", h, seen, tiles, more)
		}
		if after && !before {
			now++
		}
		_, gap, is1 := layOf(t, h, seen)
		_, lesser, is2 := layOf(t, h, more)
		if is1 && (!is2 || lesser > gap) {
			t.Errorf("%v, %v: Lay has the gap %d; %v: %d", h, seen, gap, more, lesser)
		}
		if is1 && lesser < gap {
			less++
		}
	}
	if narrower < 500 || now < 10 || less < 30 {
		t.Errorf("%d narrower, %d that fit now, %d with a lesser gap: too few for a test", narrower, now, less)
	}
}

// P8.13: a narrower Air, and a wider Frame.
func TestDrier(t *testing.T) {
	d := dice(11)
	narrower, now := 0, 0
	for range 3000 {
		h := d.any()
		seen := d.seen(h, d.truth(h), d.roll(7), 4)
		i := d.roll(len(h.Rows))
		tiles := d.tiles(h, i)
		gaps := gapOf(t, h, seen, i, tiles)
		less := h
		less.Air = d.within(h.Air.Lo, h.Air.Hi, 12)
		fewer := gapOf(t, less, seen, i, tiles)
		if !inside(gaps, fewer) {
			t.Errorf("%v, %v: Gap of %d, %v = %v; in %v: %v", h, seen, i, tiles, gaps, less.Air, fewer)
		}
		if gaps != fewer {
			narrower++
		}
		before, after := fits(t, h, seen, i, tiles), fits(t, less, seen, i, tiles)
		if before && !after {
			t.Errorf("%v, %v: %v fit; in %v they do not", h, seen, tiles, less.Air)
		}
		if after && !before {
			now++
		}
		wider, more := h, d.roll(5000)
		wider.Rows = slices.Clone(h.Rows)
		wider.Rows[i].Frame += more
		checkGap(t, "a wider frame", wider, seen, i, tiles, span(gaps.Lo+more, gaps.Hi+more), api.OK)
	}
	if narrower < 300 || now < 20 {
		t.Errorf("%d narrower, %d that fit now: too few for a test", narrower, now)
	}
}

// P8.14: what is seen in another order, and told twice; rows in another order.
func TestOtherOrder(t *testing.T) {
	d := dice(12)
	many, other := 0, 0
	for range 1500 {
		h := d.any()
		seen := d.odd(h, 6)
		twice := shuffled(&d, seen)
		if n := len(seen); n > 0 && n < 6 {
			twice = shuffled(&d, append(twice, seen[d.roll(n)]))
		}
		i, j, air := d.roll(len(h.Tiles)), d.roll(len(h.Rows)), d.roll(41)
		tiles := d.tiles(h, j)
		width, e := tile.Width(h, seen, i, air)
		checkWidth(t, "another order", h, twice, i, air, width, e)
		gap, e := tile.Gap(h, seen, j, tiles)
		checkGap(t, "another order", h, twice, j, tiles, gap, e)
		why, at, e := tile.Why(h, seen, j, tiles)
		checkWhy(t, "another order", h, twice, j, tiles, why, at, e)
		airs, e := tile.Airs(h, seen, j, tiles)
		checkAirs(t, "another order", h, twice, j, tiles, airs, e)
		rows, least, e := tile.Lay(h, seen)
		checkLay(t, "another order", h, twice, rows, least, e)
		must, f := tile.Must(h, seen)
		checkMust(t, "another order", h, twice, must, f)
		turned := h
		turned.Rows = shuffled(&d, h.Rows)
		l, g, is := tile.Lay(turned, seen)
		if g != least || is != e {
			t.Errorf("%v, %v: Lay = %v, %d, %d; in another order: %v, %d, %d", h, seen, rows, least, e, l, g, is)
		}
		checkMust(t, "rows in another order", turned, seen, must, f)
		if e == api.OK {
			many++
		}
		if e == api.OK && !slices.Equal(turned.Rows, h.Rows) {
			other++
		}
	}
	if many < 200 || other < 50 {
		t.Errorf("%d layings, %d with rows in another order: too few for a test", many, other)
	}
}

// greatestHall is a hall whose numbers and lists are all as great as can be.
func greatestHall() api.TiHall {
	h := api.TiHall{Air: span(28, 40), Most: 20000}
	for i := range 8 {
		h.Tiles = append(h.Tiles, tileOf(string(rune('a'+i)), span(19990, 20000), span(17, 20)))
	}
	h.Rows = []api.TiRow{row(200000, 160, 3), row(200000, 160, 3), row(200000, 160, 2)}
	return h
}

// P1: the greatest cases are gone through.
func TestTheGreatest(t *testing.T) {
	h, three := greatestHall(), []int{0, 1, 2}
	var seen []api.TiSeen
	for i := range 6 {
		seen = append(seen, was(i, 40, 0, 40000))
	}
	checkWidth(t, "the greatest", h, seen, 7, 40, span(20670, 20800), api.OK)
	checkGap(t, "the greatest", h, seen, 0, three, span(142800, 144390), api.OK)
	checkWhy(t, "the greatest", h, seen, 0, three, api.TiWide, 28, api.OK)
	checkAirs(t, "the greatest", h, seen, 0, three, api.Span{}, api.ErrZero)
	checkLay(t, "the greatest", h, seen, nil, 0, api.ErrZero)
	checkMust(t, "the greatest", h, seen, nil, api.ErrZero)
	h.Rows = []api.TiRow{row(64000, 20, 3), row(64000, 20, 3), row(45000, 20, 2)}
	checkLay(t, "many layings", h, seen, [][]int{{0, 1, 2}, {3, 4, 5}, {6, 7}}, 4628, api.OK)
	checkMust(t, "many layings", h, seen, []int{0, 1, 2, 3, 4, 5, 6, 7}, api.OK)
	h.Rows = []api.TiRow{row(64000, 20, 2), row(64000, 20, 2), row(64000, 20, 2)}
	h.Most = 0
	checkLay(t, "the greatest, too wide", h, seen, nil, 0, api.ErrZero)
	h.Most, h.Rows[0].Frame, h.Rows[0].Swell, h.Rows[0].Places = 20000, 0, 0, 4
	checkGap(t, "the least gap", h, nil, 0, []int{0, 1, 2, 3}, span(-83200, -81864), api.OK)
}

// P1, P8.15: any arguments are accepted.
func TestAnyArguments(t *testing.T) {
	d := dice(13)
	odd := []int{math.MinInt, math.MinInt + 1, -2, -1, 0, 0, 1, 1, 2, 2, 3, 4, 6, 8, 12, 20, 40, 41, 160, 161, 1000, 1020, 2025, 20000, 20001, 40000, 200000, 200001, math.MaxInt - 1, math.MaxInt}
	pick := func() int { return odd[d.roll(len(odd))] }
	any := func() api.Span { return span(pick(), pick()) }
	names := []string{"", "a", "b", "tile", "-", "\xff\xfe", "A"}
	reached := 0
	for range 8000 {
		h := sample()
		seen := d.seen(h, d.truth(h), d.roll(3), 5)
		row, tiles := d.roll(2), shuffled(&d, []int{0, 1, 2, 3})[:d.from(1, 2)]
		for range d.roll(3) {
			of, r := &h.Tiles[d.roll(len(h.Tiles))], &h.Rows[d.roll(len(h.Rows))]
			switch d.roll(9) {
			case 0:
				of.Name = names[d.roll(len(names))]
			case 1:
				of.Width = any()
			case 2:
				of.Swell = any()
			case 3:
				*r = api.TiRow{Frame: pick(), Swell: pick(), Places: pick()}
			case 4:
				h.Air, h.Most = any(), pick()
			case 5:
				seen = append(seen, api.TiSeen{Tile: pick(), Air: pick(), Width: any()})
			case 6:
				row, tiles = pick(), append(tiles, pick())
			case 7:
				h.Rows = append(h.Rows, api.TiRow{Frame: pick(), Swell: pick(), Places: 1})
			default:
				h.Tiles = append(h.Tiles, api.TiTile{Name: names[d.roll(len(names))], Width: any(), Swell: any()})
			}
		}
		if callAll(h, seen, pick(), pick(), row, tiles) {
			reached++
		}
		if _, _, e := tile.Check(h); e != api.OK {
			checkErrors(t, "odd numbers", h, seen, e)
		} else if _, e := tile.CheckSeen(h, seen); e != api.OK {
			checkErrors(t, "odd numbers", h, seen, e)
		}
	}
	if reached < 500 {
		t.Errorf("%d with a laying: too few for a test", reached)
	}
}

// callAll calls all functions, and reports whether there is a laying.
func callAll(h api.TiHall, seen []api.TiSeen, of, air, row int, tiles []int) bool {
	tile.Check(h)
	tile.CheckSeen(h, seen)
	tile.Width(h, seen, of, air)
	tile.Gap(h, seen, row, tiles)
	tile.Why(h, seen, row, tiles)
	tile.Airs(h, seen, row, tiles)
	tile.Must(h, seen)
	_, _, e := tile.Lay(h, seen)
	return e == api.OK
}

// P8.15: no argument is modified.
func TestArguments(t *testing.T) {
	d := dice(14)
	for range 500 {
		// Each list has room behind it, where nothing may be written.
		h := d.any()
		i := d.roll(len(h.Rows))
		tiles := append(d.tiles(h, i), 7)
		seen := append(d.seen(h, d.truth(h), d.roll(6), 3), was(7, 7, 7, 7))
		lying, rows := append(h.Tiles, tileOf("z", span(7, 7), span(7, 7))), append(h.Rows, row(7, 7, 7))
		beforeTiles, beforeSeen, beforeLying, beforeRows := slices.Clone(tiles), slices.Clone(seen), slices.Clone(lying), slices.Clone(rows)
		h.Tiles, h.Rows = lying[:len(lying)-1:len(lying)], rows[:len(rows)-1:len(rows)]
		callAll(h, seen[:len(seen)-1], 0, 0, i, tiles[:len(tiles)-1])
		if !slices.Equal(tiles, beforeTiles) || !slices.Equal(seen, beforeSeen) {
			t.Errorf("%v, %v are %v, %v", beforeTiles, beforeSeen, tiles, seen)
		}
		if !slices.Equal(lying, beforeLying) || !slices.Equal(rows, beforeRows) {
			t.Errorf("%v, %v are %v, %v", beforeLying, beforeRows, lying, rows)
		}
	}
}

// P8.15: a result is new memory.
func TestMemory(t *testing.T) {
	h, seen := sample(), s()
	h.Most = 9
	want, wantMust := [][]int{{0, 2}, {3}}, []int{0, 2, 3}
	for range 2 {
		rows, _, _ := layOf(t, h, seen)
		must, e := tile.Must(h, seen)
		asked(t, must, e)
		if !equal(rows, want) || !slices.Equal(must, wantMust) {
			t.Fatalf("later results changed: %v, %v", rows, must)
		}
		must[0] = 99
		// A row that had room behind it would write into the next one.
		_ = append(rows[0], 99, 99)
		if !equal(rows, want) {
			t.Errorf("results share memory: %v", rows)
		}
		rows[0][0] = 99
		if !slices.Equal(rows[1], want[1]) {
			t.Errorf("results share memory: %v", rows)
		}
		rows[1][0], rows[1] = 99, nil
		if other := sample(); !slices.Equal(h.Tiles, other.Tiles) || !slices.Equal(h.Rows, other.Rows) || !slices.Equal(seen, s()) {
			t.Errorf("a result shares memory: %v, %v", h, seen)
		}
	}
}
