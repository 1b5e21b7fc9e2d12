package plan

import (
	"stripes/api"
	"stripes/recent"
	"stripes/set"
)

// loss is what a plan is for: the lost shards of a stripe of those params.
type loss struct {
	api.Params
	lost set.Set
}

// Shelf keeps the plans that were used last, so that they are not compiled again.
type Shelf struct {
	plans *recent.List[loss, api.Program]
}

// NewShelf makes a shelf with room for so many plans.
func NewShelf(room int) *Shelf { return &Shelf{plans: recent.New[loss, api.Program](room)} }

// Reading is what the function Reading answers. It is not to be written into.
func (s *Shelf) Reading(p api.Params, lost set.Set) (api.Program, error) {
	key := loss{Params: p, lost: lost}
	if g, ok := s.plans.Get(key); ok {
		return g, nil
	}
	g, err := Reading(p, lost)
	if err == nil {
		s.plans.Add(key, g)
	}
	return g, err
}

// Reading makes a program for the data of a stripe of which shards are lost: it puts all lost shards out, and loads no more shards than there are data, the data that are not lost rather than parities.
// A program that loads the fewest shards for the lost ones alone may load parities in the place of data, which are then to be read beside them. So all others that can be spared, from the last one on, are taken as lost too: just as many as there are data remain.
func Reading(p api.Params, lost set.Set) (api.Program, error) {
	c, err := checksFor(p, lost)
	if err != nil {
		return api.Program{}, err
	}
	for i := p.Shards() - 1; i >= 0; i-- {
		if !lost.Has(i) && c.tell(i) {
			lost = lost.With(i)
		}
	}
	return Compile(p, uint64(lost))
}
