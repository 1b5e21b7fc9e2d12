// Package set has sets of shards.
package set

import (
	"iter"
	"math/bits"
)

// Set is one of shards: bit i stands for shard i.
type Set uint64

// First is the set of the shards from 0 to n - 1.
func First(n int) Set { return 1<<n - 1 }

// Has tells whether shard i is in the set.
func (s Set) Has(i int) bool { return s>>i&1 == 1 }

// With is the set and shard i.
func (s Set) With(i int) Set { return s | 1<<i }

// Size tells how many shards the set has.
func (s Set) Size() int { return bits.OnesCount64(uint64(s)) }

// Behind has the shards of the set that come behind shard i.
func (s Set) Behind(i int) Set { return s &^ First(i+1) }

// Members goes through the shards of the set, from the least number on.
func (s Set) Members() iter.Seq[int] {
	return func(yield func(int) bool) {
		for rest := s; rest != 0; rest &= rest - 1 {
			if !yield(bits.TrailingZeros64(uint64(rest))) {
				return
			}
		}
	}
}
