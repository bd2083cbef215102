package tile

import (
	"iter"

	"hachure/api"
)

// truth is what a truth says of one tile: its width in dry air, and by how much it swells.
type truth struct{ width, swell int }

// in returns the width of the tile in some air.
func (t truth) in(air int) int { return t.width + t.swell*air }

// numbers yields the numbers of a span, ascending.
func numbers(s api.Span) iter.Seq[int] {
	return func(yield func(int) bool) {
		for more := range s.Hi - s.Lo + 1 {
			if !yield(s.Lo + more) {
				return
			}
		}
	}
}

// joined returns the least span that has all numbers of two.
func joined(a, b api.Span) api.Span { return api.Span{Lo: min(a.Lo, b.Lo), Hi: max(a.Hi, b.Hi)} }

// widths are the least and the greatest width of a tile in each air. No width is 0: where there is none, both are.
type widths [api.MaxTiAir + 1]api.Span

// with returns widths with those of one more truth.
func (w widths) with(t truth) widths {
	for air := range api.MaxTiAir + 1 {
		width := api.Span{Lo: t.in(air), Hi: t.in(air)}
		if w[air] != (api.Span{}) {
			width = joined(w[air], width)
		}
		w[air] = width
	}
	return w
}

// looked is a hall that is looked at, and the tiles that were measured; and which widths each tile can have in all truths
// that agree. A tile that can have none has no widths.
type looked struct {
	api.TiHall
	seen   []api.TiSeen
	widths map[int]widths
}

// look returns a hall that is looked at with the tiles that were measured, or the error of either. Tiles have nothing in
// common: what a truth says of a tile and what another truth says of the next one are a truth together. So the truths are
// gone through tile by tile.
func look(h api.TiHall, seen []api.TiSeen) (looked, api.Errno) {
	if _, e := CheckSeen(h, seen); e != api.OK {
		return looked{}, e
	}
	l := looked{h, seen, map[int]widths{}}
	for tile := range h.Tiles {
		for t := range l.truths(tile) {
			l.widths[tile] = l.widths[tile].with(t)
		}
	}
	return l, api.OK
}

// truths yields what the truths that agree say of a tile.
func (l *looked) truths(tile int) iter.Seq[truth] {
	return func(yield func(truth) bool) {
		for width := range numbers(l.Tiles[tile].Width) {
		swells:
			for swell := range numbers(l.Tiles[tile].Swell) {
				t := truth{width, swell}
				for _, s := range l.seen {
					if s.Tile == tile && !within(s.Width.Lo, s.Width.Hi, t.in(s.Air)) {
						continue swells
					}
				}
				if !yield(t) {
					return
				}
			}
		}
	}
}

// contrary reports whether no truth agrees.
func (l *looked) contrary() bool { return len(l.widths) < len(l.Tiles) }

// agreeing returns a hall that is looked at, or the error of the hall or of the tiles that were measured, or ErrDown if no
// truth agrees.
func agreeing(h api.TiHall, seen []api.TiSeen) (looked, api.Errno) {
	l, e := look(h, seen)
	switch {
	case e != api.OK:
		return looked{}, e
	case l.contrary():
		return looked{}, api.ErrDown
	}
	return l, api.OK
}
