package modeller

import (
	"strings"

	"hachure/api"
	"hachure/cast"
	"hachure/sheet"
)

// books are books that are worked with. Their lists are never changed, but replaced, as they can be those of an argument, or
// of books that a line which is refused goes back to.
type books struct {
	api.MdShop
	cast []api.CaSeen
	log  []string
}

// begin returns the books with which work on a shop begins, or the error of the shop.
func begin(s api.MdShop) (books, api.Errno) {
	if _, e := Check(s); e != api.OK {
		return books{}, e
	}
	return books{MdShop: s}, api.OK
}

// open returns books to work with, or their error.
func open(b api.MdBooks) (books, api.Errno) {
	w := books{b.Shop, b.Cast, b.Log}
	if e := w.fault(); e != api.OK {
		return books{}, e
	}
	if e := logFault(b.Log); e != api.OK {
		return books{}, e
	}
	return w, api.OK
}

// fault returns the error of books, whatever their Log is.
func (b books) fault() api.Errno {
	if _, e := Check(b.MdShop); e != api.OK {
		return e
	}
	_, e := cast.Shrinks(b.Moulds, b.cast)
	if e == api.ErrDown {
		return api.ErrZero
	}
	return e
}

// line returns the books after a line, and its answer, or its error.
func (b books) line(line string) (after books, answer string, e api.Errno) {
	if len(line) > api.MaxMdLine {
		return books{}, "", api.ErrLong
	}
	d, e := read(b.MdShop, line)
	if e != api.OK {
		return books{}, "", e
	}
	after, answer, e = d.on(b)
	if e != api.OK {
		return books{}, "", e
	}
	switch d.(type) {
	case change:
		if len(b.log) == api.MaxMdLog {
			return books{}, "", api.ErrLong
		}
		// It is cloned, as a line of a file shares its memory.
		after.log = grown(b.log, strings.Clone(line))
	}
	return after, answer, api.OK
}

// toCut returns the case of the model that is cut of the sheet.
func (b books) toCut() (api.ScCase, api.Errno) {
	heights, e := sheet.Heights(b.Sheet)
	if e != api.OK {
		return api.ScCase{}, e
	}
	c := api.ScCase{Kind: b.Scale.Kind, Base: b.Scale.Base, Most: b.Scale.Most}
	for _, h := range heights {
		c.Heights = append(c.Heights, max(h.Lo, c.Base))
	}
	return c, api.OK
}

// closed returns the books as they are given out, in memory of their own.
func (b books) closed() api.MdBooks {
	return api.MdBooks{
		Shop: api.MdShop{
			Sheet:  ownSheet(b.Sheet),
			Stack:  ownStack(b.Stack),
			Rivers: grown(b.Rivers),
			Model:  ownModel(b.Model),
			Scale:  ownScale(b.Scale),
			Moulds: api.CaShop{Shrink: b.Moulds.Shrink, Moulds: grown(b.Moulds.Moulds)},
			Claim:  ownClaim(b.Claim),
		},
		Cast: grown(b.cast),
		Log:  grown(b.log),
	}
}
