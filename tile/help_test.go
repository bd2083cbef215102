package tile_test

import (
	"iter"
	"slices"

	"hachure/api"
)

func span(lo, hi int) api.Span { return api.Span{Lo: lo, Hi: hi} }

// tileOf is a tile.
func tileOf(name string, width, swell api.Span) api.TiTile {
	return api.TiTile{Name: name, Width: width, Swell: swell}
}

// row is a row.
func row(frame, swell, places int) api.TiRow {
	return api.TiRow{Frame: frame, Swell: swell, Places: places}
}

// was is a tile that was measured.
func was(tile, air, lo, hi int) api.TiSeen {
	return api.TiSeen{Tile: tile, Air: air, Width: span(lo, hi)}
}

// sample is H of the chapter's examples.
func sample() api.TiHall {
	return api.TiHall{Air: span(10, 12), Most: 12, Tiles: []api.TiTile{
		tileOf("a", span(1000, 1002), span(1, 1)),
		tileOf("b", span(1005, 1005), span(0, 0)),
		tileOf("c", span(998, 998), span(1, 1)),
		tileOf("d", span(1006, 1006), span(1, 1))},
		Rows: []api.TiRow{row(2025, 0, 2), row(1010, 1, 1)}}
}

// s is S of the chapter's examples.
func s() []api.TiSeen { return []api.TiSeen{was(0, 20, 1020, 1020)} }

// contrary is a tile that sample cannot have.
func contrary() []api.TiSeen { return []api.TiSeen{was(1, 20, 1006, 1010)} }

// exact is a hall in the air 0 of which all is known: its tiles are so wide, and do not swell.
func exact(most int, rows []api.TiRow, widths ...int) api.TiHall {
	h := api.TiHall{Most: most, Rows: rows}
	for i, n := range widths {
		h.Tiles = append(h.Tiles, tileOf(string(rune('a'+i)), span(n, n), span(0, 0)))
	}
	return h
}

// has reports whether a span has a number.
func has(s api.Span, n int) bool { return s.Lo <= n && n <= s.Hi }

// inside reports whether a span has all numbers of another one.
func inside(outer, inner api.Span) bool { return has(outer, inner.Lo) && has(outer, inner.Hi) }

// tileTruth is a number of the Width of a tile, and one of its Swell.
type tileTruth struct{ width, swell int }

// truth has this for each tile.
type truth []tileTruth

// width returns the width of a tile in some air.
func (t truth) width(tile, air int) int { return t[tile].width + t[tile].swell*air }

// gap returns the gap of a row with some tiles in some air.
func (t truth) gap(r api.TiRow, tiles []int, air int) int {
	gap := r.Frame + r.Swell*air
	for _, tile := range tiles {
		gap -= t.width(tile, air)
	}
	return gap
}

// agrees reports whether the widths of tiles that were measured are so.
func (t truth) agrees(seen []api.TiSeen) bool {
	return !slices.ContainsFunc(seen, func(s api.TiSeen) bool { return !has(s.Width, t.width(s.Tile, s.Air)) })
}

// truths yields all truths that agree. The truth is used again for the next one.
func truths(h api.TiHall, seen []api.TiSeen) iter.Seq[truth] {
	return func(yield func(truth) bool) {
		t := make(truth, len(h.Tiles))
		var from func(i int) bool
		from = func(i int) bool {
			if i == len(t) {
				return !t.agrees(seen) || yield(t)
			}
			for width := h.Tiles[i].Width.Lo; width <= h.Tiles[i].Width.Hi; width++ {
				for swell := h.Tiles[i].Swell.Lo; swell <= h.Tiles[i].Swell.Hi; swell++ {
					t[i] = tileTruth{width, swell}
					if !from(i + 1) {
						return false
					}
				}
			}
			return true
		}
		from(0)
	}
}

// many returns how many truths a hall has, whatever was measured.
func many(h api.TiHall) int {
	n := 1
	for _, t := range h.Tiles {
		n *= (t.Width.Hi - t.Width.Lo + 1) * (t.Swell.Hi - t.Swell.Lo + 1)
	}
	return n
}

// known are the least and the greatest number of something, in some air, from 0 on.
type known [41]api.Span

// add adds a number in some air.
func (k *known) add(air, n int, first bool) {
	if first {
		k[air] = span(n, n)
	}
	k[air] = span(min(k[air].Lo, n), max(k[air].Hi, n))
}

// widths returns what is known of a tile, and whether any truth agrees, found by trying all truths.
func widths(h api.TiHall, seen []api.TiSeen, tile int) (k known, is bool) {
	for t := range truths(h, seen) {
		for air := range k {
			k.add(air, t.width(tile, air), !is)
		}
		is = true
	}
	return k, is
}

// gaps returns what is known of a row with some tiles, and whether any truth agrees, found by trying all truths.
func gaps(h api.TiHall, seen []api.TiSeen, row int, tiles []int) (k known, is bool) {
	for t := range truths(h, seen) {
		for air := range k {
			k.add(air, t.gap(h.Rows[row], tiles, air), !is)
		}
		is = true
	}
	return k, is
}

// gap returns the least and the greatest gap in some air.
func (k known) gap(air api.Span) api.Span {
	s := k[air.Lo]
	for _, of := range k[air.Lo : air.Hi+1] {
		s = span(min(s.Lo, of.Lo), max(s.Hi, of.Hi))
	}
	return s
}

// why returns the first air of some in which gaps are too tight or too wide, and which of both.
func (k known) why(air api.Span, most int) (why, at int) {
	for at := air.Lo; at <= air.Hi; at++ {
		if k[at].Lo < 0 {
			return api.TiTight, at
		}
		if k[at].Hi > most {
			return api.TiWide, at
		}
	}
	return api.TiFits, 0
}

// airs returns all air from 0 to 40 in which gaps are neither too tight nor too wide.
func (k known) airs(most int) (l []int) {
	for air := range k {
		if why, _ := k.why(span(air, air), most); why == api.TiFits {
			l = append(l, air)
		}
	}
	return l
}

// sets yields all ways in which tiles are given to the rows of a hall, or to none, with as many in each row as it has
// Places.
func sets(h api.TiHall) iter.Seq[[][]int] {
	return func(yield func([][]int) bool) {
		rows := make([][]int, len(h.Rows))
		var from func(tile int) bool
		from = func(tile int) bool {
			if tile == len(h.Tiles) {
				for i, r := range h.Rows {
					if len(rows[i]) != r.Places {
						return true
					}
				}
				return yield(rows)
			}
			for i := range rows {
				before := rows[i]
				if len(before) == h.Rows[i].Places {
					continue
				}
				rows[i] = append(slices.Clone(before), tile)
				if !from(tile + 1) {
					return false
				}
				rows[i] = before
			}
			return from(tile + 1)
		}
		from(0)
	}
}

// tilesOf returns all tiles that a row can have, whether or not they fit.
func tilesOf(h api.TiHall, row int) (l [][]int) {
	for set := range 1 << len(h.Tiles) {
		if tiles := numbers(set); len(tiles) == h.Rows[row].Places {
			l = append(l, tiles)
		}
	}
	return l
}

// numbers returns the numbers of a set of bits, ascending.
func numbers(set int) (list []int) {
	for n := range 64 {
		if set>>n&1 == 1 {
			list = append(list, n)
		}
	}
	return list
}

// laying is a laying, with its gap.
type laying struct {
	rows [][]int
	gap  int
}

// layings returns all layings, found by trying all ways to lay tiles. Tiles of which each one can be so wide can be so wide
// together, as no tile says anything of another one.
func layings(h api.TiHall, seen []api.TiSeen) (all []laying) {
	var wide []known
	for tile, t := range h.Tiles {
		alone := api.TiHall{Tiles: []api.TiTile{t}}
		var of []api.TiSeen
		for _, s := range seen {
			if s.Tile == tile {
				of = append(of, was(0, s.Air, s.Width.Lo, s.Width.Hi))
			}
		}
		k, is := widths(alone, of, 0)
		if !is {
			return nil
		}
		wide = append(wide, k)
	}
	for rows := range sets(h) {
		l := laying{gap: -1}
		for i, r := range h.Rows {
			var k known
			for air := range k {
				k[air] = span(r.Frame+r.Swell*air, r.Frame+r.Swell*air)
				for _, tile := range rows[i] {
					k[air] = span(k[air].Lo-wide[tile][air].Hi, k[air].Hi-wide[tile][air].Lo)
				}
			}
			if why, _ := k.why(h.Air, h.Most); why != api.TiFits {
				break
			}
			l = laying{append(l.rows, rows[i]), max(l.gap, k.gap(h.Air).Hi)}
		}
		if len(l.rows) == len(h.Rows) {
			all = append(all, l)
		}
	}
	return all
}

// isIn reports whether a tile is in a row.
func isIn(rows [][]int, tile int) bool {
	return slices.ContainsFunc(rows, func(tiles []int) bool { return slices.Contains(tiles, tile) })
}

// compare compares rows, one after the other.
func compare(a, b [][]int) int { return slices.CompareFunc(a, b, slices.Compare) }

// equal reports whether rows are the same.
func equal(a, b [][]int) bool { return slices.EqualFunc(a, b, slices.Equal) }

// dice gives numbers that look random, and are the same in each run.
type dice uint64

func (d *dice) roll(n int) int {
	*d = *d*6364136223846793005 + 1442695040888963407
	return int(uint64(*d)>>33) % n
}

// from returns a number from lo to hi.
func (d *dice) from(lo, hi int) int { return lo + d.roll(hi-lo+1) }

// within returns a span of at most wide from lo to hi.
func (d *dice) within(lo, hi, wide int) api.Span {
	from := d.from(lo, hi)
	return span(from, min(hi, from+d.roll(wide+1)))
}

// shuffled returns a list in another order.
func shuffled[T any](d *dice, list []T) []T {
	list = slices.Clone(list)
	for i := range list {
		j := i + d.roll(len(list)-i)
		list[i], list[j] = list[j], list[i]
	}
	return list
}

// middle returns the number in the middle of a span.
func middle(s api.Span) int { return (s.Lo + s.Hi) / 2 }

// hall returns a hall with so many tiles, whose spans are at most so wide, and at most so many rows. Each row is about as
// wide as some tiles in the driest air of the hall, and often in the other one.
func (d *dice) hall(tiles, rows, wide, loose int) api.TiHall {
	least, swell := []int{1, 20, 100, 990, 19950}[d.roll(5)], []int{0, 1, 3, 20}[d.roll(4)]
	h := api.TiHall{Air: d.within(0, 40, []int{0, 3, 12}[d.roll(3)]), Most: []int{0, 5, 20, 60, 300}[d.roll(5)] + d.roll(20)}
	for i := range tiles {
		h.Tiles = append(h.Tiles, tileOf(string(rune('a'+i)), d.within(least, least+d.from(0, 40), wide), d.within(0, swell, loose)))
	}
	left := tiles
	for range rows {
		if left == 0 {
			break
		}
		r := row(d.from(-3, 3+h.Most), 0, d.from(1, min(left, 4)))
		left -= r.Places
		for _, t := range shuffled(d, h.Tiles)[:r.Places] {
			r.Frame, r.Swell = r.Frame+middle(t.Width), r.Swell+middle(t.Swell)
		}
		if more := max(d.from(-2, 2), -r.Swell); d.roll(2) == 0 {
			r.Frame, r.Swell = r.Frame-more*h.Air.Lo, r.Swell+more
		}
		r.Frame = max(0, r.Frame)
		h.Rows = append(h.Rows, r)
	}
	return h
}

// any returns a hall of any sort.
func (d *dice) any() api.TiHall {
	return d.hall(d.from(1, 8), d.from(1, 3), []int{0, 2, 10}[d.roll(3)], []int{0, 1, 3}[d.roll(3)])
}

// small returns a hall with few truths.
func (d *dice) small() api.TiHall {
	for {
		if h := d.hall(d.from(1, 4), d.from(1, 3), d.from(0, 10), d.from(0, 3)); many(h) <= 500 {
			return h
		}
	}
}

// truth returns a truth of a hall, whatever was measured.
func (d *dice) truth(h api.TiHall) (t truth) {
	for _, tile := range h.Tiles {
		t = append(t, tileTruth{d.from(tile.Width.Lo, tile.Width.Hi), d.from(tile.Swell.Lo, tile.Swell.Hi)})
	}
	return t
}

// seen returns so many tiles that were measured, as they are in a truth: each by at most off off on either side.
func (d *dice) seen(h api.TiHall, t truth, many, off int) (seen []api.TiSeen) {
	for range many {
		tile, air := d.roll(len(h.Tiles)), d.roll(41)
		n := t.width(tile, air)
		seen = append(seen, was(tile, air, max(0, n-d.roll(off+1)), n+d.roll(off+1)))
	}
	return seen
}

// odd returns tiles that were measured, with some of which few truths agree, or none does.
func (d *dice) odd(h api.TiHall, most int) []api.TiSeen {
	seen := d.seen(h, d.truth(h), d.roll(most+1), 4)
	for i := range seen {
		if d.roll(4) == 0 {
			off := d.from(-3, 3)
			seen[i].Width = span(max(0, seen[i].Width.Lo+off), max(0, seen[i].Width.Hi+off))
		}
	}
	return seen
}

// tiles returns any tiles that a row can have.
func (d *dice) tiles(h api.TiHall, row int) []int {
	l := tilesOf(h, row)
	return l[d.roll(len(l))]
}
