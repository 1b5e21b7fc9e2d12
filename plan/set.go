package plan

import (
	"iter"
	"math/bits"
)

// set is one of shards: bit i stands for shard i.
type set uint64

// first is the set of the shards from 0 to n - 1.
func first(n int) set { return 1<<n - 1 }

// size tells how many shards the set has.
func (s set) size() int { return bits.OnesCount64(uint64(s)) }

// behind has the shards of the set that come behind shard i.
func (s set) behind(i int) set { return s &^ first(i+1) }

// members goes through the shards of the set, from the least number on.
func (s set) members() iter.Seq[int] {
	return func(yield func(int) bool) {
		for rest := s; rest != 0; rest &= rest - 1 {
			if !yield(bits.TrailingZeros64(uint64(rest))) {
				return
			}
		}
	}
}
