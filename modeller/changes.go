package modeller

import "hachure/api"

// spot, contour, lake and slope read a note of the sheet.
func (r *reader) spot() deed {
	a := r.point()
	return noted(api.ShNote{Kind: api.ShSpot, A: a, By: r.span()})
}

func (r *reader) contour() deed {
	a := r.point()
	return noted(api.ShNote{Kind: api.ShContour, A: a, By: r.span()})
}

func (r *reader) lake() deed {
	a := r.point()
	return noted(api.ShNote{Kind: api.ShLake, A: a, B: r.point()})
}

func (r *reader) slope() deed {
	a := r.point()
	b := r.point()
	return noted(api.ShNote{Kind: api.ShSlope, A: a, B: b, By: r.span()})
}

// noted adds a note to the sheet.
func noted(n api.ShNote) change {
	return func(b *books) { b.Sheet.Notes = grown(b.Sheet.Notes, n) }
}

// stack reads a measure of a stack.
func (r *reader) stack() deed {
	m := api.SpMeasure{Air: r.number()}
	m.Level = r.span()
	for range r.shop.Stack.Kinds {
		m.Counts = append(m.Counts, r.number())
	}
	return change(func(b *books) { b.Stack.Measures = grown(b.Stack.Measures, m) })
}

// river reads how high a point of the rivers is now.
func (r *reader) river() deed {
	at := r.riverPoint()
	height := r.number()
	return change(func(b *books) {
		b.Rivers = grown(b.Rivers)
		b.Rivers[at].Height = height
	})
}

// pin reads how long a pin is now.
func (r *reader) pin() deed {
	at := r.pinNamed()
	length := r.number()
	return change(func(b *books) {
		b.Model.Pins = grown(b.Model.Pins)
		b.Model.Pins[at].Length = length
	})
}

// cast reads a cast that was measured.
func (r *reader) cast() deed {
	c := api.CaSeen{Mould: r.mould()}
	c.Cast = r.number()
	c.Size = r.span()
	return change(func(b *books) { b.cast = grown(b.cast, c) })
}

// back reads a measure of a tile that came back.
func (r *reader) back() deed {
	m := api.BkMeasure{Feature: r.feature()}
	m.Shown = r.number()
	return change(func(b *books) { b.Claim.Measures = grown(b.Claim.Measures, m) })
}
