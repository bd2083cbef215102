package river

import (
	"iter"

	"hachure/api"
)

// points are the points of rivers.
type points []api.RvPoint

// up yields the points from which water comes to a mouth, from there up: each one behind that to which its water goes.
// What goes round and round is not among them.
func (p points) up() iter.Seq[int] {
	return func(yield func(int) bool) {
		var above func(down int) bool
		above = func(down int) bool {
			for at, x := range p {
				if x.Down == down && !(yield(at) && above(at)) {
					return false
				}
			}
			return true
		}
		above(api.RvMouth)
	}
}

// runsOn reports whether water runs on from a point.
func (p points) runsOn(at int) bool {
	x := p[at]
	return x.Down != api.RvMouth && x.Height >= p[x.Down].Height+x.Least
}

// stops reports whether water stops at a point that is not the mouth.
func (p points) stops(at int) bool { return p[at].Down != api.RvMouth && !p.runsOn(at) }

// free stands for the drop to a point that is not below: any height is as much above any other one.
const free = -api.MaxHeight

// drops is by how much the height of each point has to be above that of each other one at least: the drop, from a point to
// itself 0, or free.
type drops [api.MaxRvPoints][api.MaxRvPoints]int

// dropsOf returns the drops between points.
func dropsOf(p points) (d drops) {
	for a := range d {
		for b := range d[a] {
			d[a][b] = free
		}
	}
	for at := range p.up() {
		d[at][at] = 0
		x := p[at]
		if x.Down == api.RvMouth {
			continue
		}
		for b, drop := range d[x.Down] {
			if drop != free {
				d[at][b] = drop + x.Least
			}
		}
	}
	return d
}

// looked is rivers that are looked at, with the drops between their points.
type looked struct {
	points
	drops drops
}

// look returns rivers that are looked at, or their error.
func look(r []api.RvPoint) (looked, api.Errno) {
	if _, _, e := Check(r); e != api.OK {
		return looked{}, e
	}
	return looked{r, dropsOf(r)}, api.OK
}

// filled returns the least height of a point that is above all others by the drops to them.
func (l looked) filled(at int) int {
	height := 0
	for b, p := range l.points {
		height = max(height, p.Height+l.drops[at][b])
	}
	return height
}

// carved returns the greatest height of a point that all others are above by the drops from them.
func (l looked) carved(at int) int {
	height := api.MaxHeight
	for a, p := range l.points {
		height = min(height, p.Height-l.drops[a][at])
	}
	return height
}

// changed returns the rivers' heights that are told point by point, or ErrDown if one of them is no height.
func changed(r []api.RvPoint, height func(l looked, at int) int) ([]int, api.Errno) {
	l, e := look(r)
	if e != api.OK {
		return nil, e
	}
	var heights []int
	for at := range r {
		heights = append(heights, height(l, at))
	}
	if !within(0, api.MaxHeight, heights...) {
		return nil, api.ErrDown
	}
	return heights, api.OK
}

// room returns the heights that a point has in heights that run down.
func (l looked) room(at int) api.Span {
	room := api.Span{Lo: 0, Hi: api.MaxHeight}
	for other := range l.points {
		room.Lo = max(room.Lo, l.drops[at][other])
		room.Hi = min(room.Hi, api.MaxHeight-l.drops[other][at])
	}
	return room
}

// outOfReach reports whether a point is out of reach.
func (l looked) outOfReach(at int) bool {
	room := l.room(at)
	return !within(room.Lo, room.Hi, l.points[at].Height)
}

// conflict reports whether two points are a conflict, whichever of them is the upper one.
func (l looked) conflict(a, b int) bool {
	over := l.points[a].Height - l.points[b].Height
	return over < l.drops[a][b] || -over < l.drops[b][a]
}
