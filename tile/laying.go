package tile

import (
	"iter"
	"slices"

	"hachure/api"
)

// laying is the tiles of some first rows, no tile in two, which fit, and the greatest gap of these rows.
type laying struct {
	rows [][]int
	gap  int
}

// with returns a laying with the next row.
func (l laying) with(f filled) laying {
	return laying{append(slices.Clone(l.rows), f.tiles), max(l.gap, f.gaps().Hi)}
}

// has reports whether a tile is in a row.
func (l laying) has(tile int) bool {
	return slices.ContainsFunc(l.rows, func(tiles []int) bool { return slices.Contains(tiles, tile) })
}

// layings yields all layings of all rows, the first ones first.
func (l *looked) layings() iter.Seq[laying] {
	return func(yield func(laying) bool) {
		var give func(before laying) bool
		give = func(before laying) bool {
			row := len(before.rows)
			if row == len(l.Rows) {
				return yield(before)
			}
			left := slices.DeleteFunc(l.indices(), before.has)
			for _, tiles := range lists(left, l.Rows[row].Places) {
				f := filled{l, l.Rows[row], tiles}
				if f.fit() && !give(before.with(f)) {
					return false
				}
			}
			return true
		}
		give(laying{})
	}
}

// indices returns those of all tiles.
func (l *looked) indices() []int {
	return slices.Collect(numbers(api.Span{Lo: 0, Hi: len(l.Tiles) - 1}))
}

// lists returns all ascending lists of so many of some ascending numbers, the first ones first.
func lists(of []int, many int) [][]int {
	lists := [][]int{nil}
	for range many {
		var longer [][]int
		for _, list := range lists {
			for _, n := range of {
				if len(list) == 0 || n > slices.Max(list) {
					longer = append(longer, append(slices.Clone(list), n))
				}
			}
		}
		lists = longer
	}
	return lists
}

// least returns the first of several things that no other one is less than, and whether there are any.
func least[T any](things iter.Seq[T], less func(a, b T) bool) (found T, is bool) {
	for thing := range things {
		if !is || less(thing, found) {
			found, is = thing, true
		}
	}
	return found, is
}

// must returns the tiles that are in each laying, and whether there is any.
func (l *looked) must() (tiles []int, is bool) {
	tiles = l.indices()
	for one := range l.layings() {
		is = true
		tiles = slices.DeleteFunc(tiles, func(tile int) bool { return !one.has(tile) })
	}
	return tiles, is
}
