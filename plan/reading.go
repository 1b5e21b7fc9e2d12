package plan

import (
	"stripes/api"
	"stripes/set"
)

// Reading makes a program for the data of a stripe of which shards are lost: it puts all lost shards out, and loads no more shards than there are data, the data that are not lost rather than parities.
// A program that loads the fewest shards for the lost ones alone may load parities in the place of data, which are then to be read beside them. So all others that can be spared, from the last one on, are taken as lost too: just as many as there are data remain.
func Reading(p api.Params, lost set.Set) (api.Program, error) {
	c, err := checksFor(p, lost)
	if err != nil {
		return api.Program{}, err
	}
	for i := p.Shards() - 1; i >= 0; i-- {
		if !lost.Has(i) && c.tell(i) {
			lost = lost.With(i)
		}
	}
	return Compile(p, uint64(lost))
}
