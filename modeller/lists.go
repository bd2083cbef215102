package modeller

import "hachure/api"

// grown returns a list in memory of its own, with more behind it.
func grown[T any](list []T, more ...T) []T {
	if list == nil && len(more) == 0 {
		return nil
	}
	longer := make([]T, len(list)+len(more))
	copy(longer, list)
	copy(longer[len(list):], more)
	return longer
}

// ownSheet, ownStack, ownModel, ownScale and ownClaim return a thing of a shop in memory of its own.
func ownSheet(s api.ShSheet) api.ShSheet {
	s.Points, s.Notes = grown(s.Points), grown(s.Notes)
	return s
}

func ownStack(s api.SpStack) api.SpStack {
	s.Kinds, s.Measures, s.Bands = grown(s.Kinds), grown(s.Measures), grown(s.Bands)
	for i := range s.Measures {
		s.Measures[i].Counts = grown(s.Measures[i].Counts)
	}
	return s
}

func ownModel(m api.PnModel) api.PnModel {
	m.Heights, m.Pins, m.Stands = grown(m.Heights), grown(m.Pins), grown(m.Stands)
	return m
}

func ownScale(c api.ScCase) api.ScCase {
	c.Heights, c.Roads = grown(c.Heights), grown(c.Roads)
	return c
}

func ownClaim(c api.BkClaim) api.BkClaim {
	c.Features, c.Causes, c.Measures = grown(c.Features), grown(c.Causes), grown(c.Measures)
	for i := range c.Causes {
		c.Causes[i].Per = grown(c.Causes[i].Per)
	}
	return c
}
