package plan

import (
	"stripes/api"
	"stripes/recent"
	"stripes/set"
)

// wish is what a plan is for: the lost shards of a stripe of those params, to be repaired all, or so far as the data are read.
type wish struct {
	api.Params
	lost    set.Set
	reading bool
}

// Shelf keeps the plans that were used last, so that they are not compiled again. They are not to be written into.
type Shelf struct {
	plans *recent.List[wish, api.Program]
}

// NewShelf makes a shelf with room for so many plans.
func NewShelf(room int) *Shelf { return &Shelf{plans: recent.New[wish, api.Program](room)} }

// Reading is what the function Reading answers.
func (s *Shelf) Reading(p api.Params, lost set.Set) (api.Program, error) {
	return s.plan(wish{Params: p, lost: lost, reading: true})
}

// Repairing is what Compile answers.
func (s *Shelf) Repairing(p api.Params, lost set.Set) (api.Program, error) {
	return s.plan(wish{Params: p, lost: lost})
}

// plan looks for a plan, and makes it where there is none yet.
func (s *Shelf) plan(w wish) (api.Program, error) {
	if g, ok := s.plans.Get(w); ok {
		return g, nil
	}
	g, err := w.grant()
	if err == nil {
		s.plans.Add(w, g)
	}
	return g, err
}

// grant makes a plan.
func (w wish) grant() (api.Program, error) {
	if w.reading {
		return Reading(w.Params, w.lost)
	}
	return Compile(w.Params, uint64(w.lost))
}
