package tile

import "hachure/api"

// filled is a row of a hall that is looked at, with its tiles.
type filled struct {
	*looked
	api.TiRow
	tiles []int
}

// filling returns a row with tiles, or the first error: of the hall, of the tiles that were measured, of the row, or of its
// tiles; or ErrDown if no truth agrees.
func filling(h api.TiHall, seen []api.TiSeen, row int, tiles []int) (filled, api.Errno) {
	l, e := look(h, seen)
	switch {
	case e != api.OK:
		return filled{}, e
	case !isIndex(h.Rows, row):
		return filled{}, api.ErrNone
	}
	f := filled{&l, h.Rows[row], tiles}
	if e := f.fault(); e != api.OK {
		return filled{}, e
	}
	if l.contrary() {
		return filled{}, api.ErrDown
	}
	return f, api.OK
}

// fault returns the error of the tiles.
func (f filled) fault() api.Errno {
	switch {
	case len(f.tiles) != f.Places:
		return api.ErrLong
	case !within(0, len(f.Tiles)-1, f.tiles...):
		return api.ErrNone
	}
	_, e := firstFault(f.tiles, func(tile int, before []int) api.Errno {
		if len(before) > 0 && tile <= before[len(before)-1] {
			return api.ErrArg
		}
		return api.OK
	})
	return e
}

// gap returns the least and the greatest gap in some air.
func (f filled) gap(air int) api.Span {
	frame := f.Frame + f.Swell*air
	gap := api.Span{Lo: frame, Hi: frame}
	for _, tile := range f.tiles {
		width := f.widths[tile][air]
		gap = api.Span{Lo: gap.Lo - width.Hi, Hi: gap.Hi - width.Lo}
	}
	return gap
}

// gaps returns the least and the greatest gap in any air of the hall.
func (f filled) gaps() api.Span {
	gaps := f.gap(f.Air.Lo)
	for air := range numbers(f.Air) {
		gaps = joined(gaps, f.gap(air))
	}
	return gaps
}

// reason is a reason why tiles do not fit: it tells whether it applies to the gaps in some air.
type reason struct {
	why     int
	applies func(gap api.Span) bool
}

// reasons returns all reasons, the one that is told rather than the other first.
func (f filled) reasons() []reason {
	return []reason{
		{api.TiTight, func(gap api.Span) bool { return gap.Lo < 0 }},
		{api.TiWide, func(gap api.Span) bool { return gap.Hi > f.Most }},
	}
}

// whyIn returns why the tiles do not fit in some air, or TiFits.
func (f filled) whyIn(air int) int {
	gap := f.gap(air)
	for _, r := range f.reasons() {
		if r.applies(gap) {
			return r.why
		}
	}
	return api.TiFits
}

// why returns why the tiles do not fit, and the first air of the hall in which they do not; or TiFits.
func (f filled) why() (why, air int) {
	for air := range numbers(f.Air) {
		if why := f.whyIn(air); why != api.TiFits {
			return why, air
		}
	}
	return api.TiFits, 0
}

// fit reports whether the tiles fit.
func (f filled) fit() bool {
	why, _ := f.why()
	return why == api.TiFits
}

// airs returns all air, that of the hall or not, in which the tiles are neither too tight nor too wide.
func (f filled) airs() (airs []int) {
	for air := range api.MaxTiAir + 1 {
		if f.whyIn(air) == api.TiFits {
			airs = append(airs, air)
		}
	}
	return airs
}
