package carve

import (
	"slices"

	"hachure/api"
)

// filled returns by how much a surface of some height is filled at a point.
func (l looked) filled(at, height int) int { return max(0, height-l.Points[at].Board) }

// carved returns by how much a surface of some height is carved at a point.
func (l looked) carved(at, height int) int { return max(0, l.Points[at].Board-height) }

// begun returns how many passes begin at a point that is carved so deep, if the point before it is carved by before:
// those of the first decimetres go on from there.
func begun(before, deep int) int { return max(0, deep-before) }

// depths returns by how much a surface is carved at each point.
func (l looked) depths(surface []int) []int {
	depths := make([]int, len(surface))
	for at, height := range surface {
		depths[at] = l.carved(at, height)
	}
	return depths
}

// many returns how many passes carve the points so deep.
func (l looked) many(depths []int) int {
	many := begun(0, depths[0])
	for a, b := range l.neighbours() {
		many += begun(depths[a], depths[b])
	}
	return many
}

// passesOf returns the passes that carve points so deep, decimetre by decimetre, and from left to right.
func passesOf(depths []int) (passes []api.CvPass) {
	for done := range slices.Max(depths) {
		for at, deep := range depths {
			switch {
			case deep <= done:
			case at > 0 && depths[at-1] > done:
				passes[len(passes)-1].To = at
			default:
				passes = append(passes, api.CvPass{From: at, To: at})
			}
		}
	}
	return passes
}
