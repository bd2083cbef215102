package tile

import (
	"slices"

	"hachure/api"
	"hachure/sheet"
)

// within reports whether all numbers are from lo to hi.
func within(lo, hi int, numbers ...int) bool {
	for _, n := range numbers {
		if n < lo || n > hi {
			return false
		}
	}
	return true
}

// isIndex reports whether a number is an index of a list.
func isIndex[T any](list []T, n int) bool { return within(0, len(list)-1, n) }

// firstFault returns the first of several things with an error, and this error, which can depend on those before it.
func firstFault[T any](things []T, fault func(thing T, before []T) api.Errno) (at int, e api.Errno) {
	for at, thing := range things {
		if e := fault(thing, things[:at]); e != api.OK {
			return at, e
		}
	}
	return 0, api.OK
}

// torn reports whether the Hi of a span is below its Lo, or more above it than it may be.
func torn(s api.Span, most int) bool { return !within(0, most, s.Hi-s.Lo) }

// hallFault returns the error of a hall, whatever its tiles and rows are.
func hallFault(h api.TiHall) api.Errno {
	switch {
	case !within(0, api.MaxTiAir, h.Air.Lo, h.Air.Hi), !within(0, api.MaxTiWidth, h.Most):
		return api.ErrRange
	case torn(h.Air, api.MaxTiAirs):
		return api.ErrArg
	case !within(1, api.MaxTiTiles, len(h.Tiles)), !within(1, api.MaxTiRows, len(h.Rows)):
		return api.ErrLong
	}
	return api.OK
}

// tileFault returns the error of a tile that comes after others.
func tileFault(t api.TiTile, before []api.TiTile) api.Errno {
	switch {
	case !sheet.Name(t.Name):
		return api.ErrForm
	case slices.ContainsFunc(before, func(b api.TiTile) bool { return b.Name == t.Name }):
		return api.ErrTwice
	case !within(1, api.MaxTiWidth, t.Width.Lo, t.Width.Hi), !within(0, api.MaxTiSwell, t.Swell.Lo, t.Swell.Hi):
		return api.ErrRange
	case torn(t.Width, api.MaxTiWide), torn(t.Swell, api.MaxTiLoose):
		return api.ErrArg
	}
	return api.OK
}

// rowFault returns the error of a row that comes after others, in a hall with so many tiles.
func rowFault(tiles int, r api.TiRow, before []api.TiRow) api.Errno {
	if !within(0, api.MaxTiFrame, r.Frame) || !within(0, api.MaxTiSwell*api.MaxTiTiles, r.Swell) || !within(1, tiles, r.Places) {
		return api.ErrRange
	}
	places := r.Places
	for _, b := range before {
		places += b.Places
	}
	if places > tiles {
		return api.ErrLong
	}
	return api.OK
}

// seenFault returns the error of a tile that was measured in a hall. Its widths may be as many as there is room for.
func seenFault(h api.TiHall, s api.TiSeen) api.Errno {
	switch {
	case !isIndex(h.Tiles, s.Tile):
		return api.ErrNone
	case !within(0, api.MaxTiAir, s.Air), !within(0, 2*api.MaxTiWidth, s.Width.Lo, s.Width.Hi):
		return api.ErrRange
	case torn(s.Width, 2*api.MaxTiWidth):
		return api.ErrArg
	}
	return api.OK
}
