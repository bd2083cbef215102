package sheet

import "hachure/api"

// ground stands among the points for the height 0, above which spots and contours are.
const ground = api.MaxShPoints

// saying is what a note says.
type saying interface {
	// over returns the point above which A is, or ground.
	over() int
	// ends returns between which numbers the ends of By have to be.
	ends() api.Span
	// span returns by how many decimetres A is above it.
	span() api.Span
}

type spot struct{ api.ShNote }

func (s spot) over() int      { return ground }
func (s spot) ends() api.Span { return api.Span{Lo: 0, Hi: api.MaxHeight} }
func (s spot) span() api.Span { return s.By }

// contour is a spot whose By counts intervals.
type contour struct {
	spot
	interval int
}

// ends divides where the document multiplies: By can be any number before it is checked.
func (c contour) ends() api.Span { return api.Span{Lo: 0, Hi: api.MaxHeight / c.interval} }

func (c contour) span() api.Span {
	return api.Span{Lo: c.By.Lo * c.interval, Hi: c.By.Hi * c.interval}
}

type slope struct{ api.ShNote }

func (s slope) over() int      { return s.B }
func (s slope) ends() api.Span { return api.Span{Lo: -api.MaxHeight, Hi: api.MaxHeight} }
func (s slope) span() api.Span { return s.By }

// lake is a slope that is 0.
type lake struct{ slope }

func (l lake) ends() api.Span { return api.Span{} }

// saying returns what a note says, or nil if its kind is none.
func (l looked) saying(n api.ShNote) saying {
	switch n.Kind {
	case api.ShSpot:
		return spot{n}
	case api.ShContour:
		return contour{spot{n}, l.Interval}
	case api.ShLake:
		return lake{slope{n}}
	case api.ShSlope:
		return slope{n}
	}
	return nil
}
