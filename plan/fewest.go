package plan

import (
	"iter"

	"stripes/set"
)

// fewest works the checks so that they tell the lost shards by the fewest of those that are kept.
func fewest(c checks, kept set.Set) checks {
	best, least := c, kept.Size()
	fewer := func(reads int) bool { return reads < least }
candidates:
	for candidate := range leavings(c, kept, fewer) {
		reads := 0
		for i := range kept.Members() {
			if !candidate.reads(i) {
				continue
			}
			reads++
			if !fewer(reads) {
				continue candidates
			}
		}
		best, least = candidate, reads
	}
	return best
}

// leavings goes through what the checks become when shards of a set are left: no shard, or any that can be left together.
// It gives a way up when, by the shards that are passed over on it, no fewer can be read.
func leavings(c checks, of set.Set, fewer func(reads int) bool) iter.Seq[checks] {
	return func(yield func(checks) bool) { visit(c, of, 0, fewer, yield) }
}

// visit goes through the checks as they are, and then as they become when further shards are left; it answers false, if no more is asked for.
// Which shards are read hangs on which are left, and not on their order. So the rising order is enough, in which a shard that could be left is passed over only to be read.
func visit(c checks, of set.Set, passed int, fewer func(int) bool, yield func(checks) bool) bool {
	if !yield(c) {
		return false
	}
	for i := range of.Members() {
		if !fewer(passed) {
			break
		}
		left := c
		if !left.leave(i) {
			continue
		}
		if !visit(left, of.Behind(i), passed, fewer, yield) {
			return false
		}
		passed++
	}
	return true
}
