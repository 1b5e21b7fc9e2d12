package plan

import (
	"stripes/api"
	"stripes/field"
)

// mostChecks is how many checks there are at most: one for each parity.
const mostChecks = api.MaxLocal + api.MaxGlobal

// checks are sums of shards, each times a number, that come to 0 whatever the data are.
// The first ones tell a lost shard each, by the others that they have; the rest are spare.
// They are an array, so that a copy can be worked on while the search goes back to what was before.
type checks struct {
	rows  [mostChecks][api.MaxShards]byte
	told  int // how many tell a lost shard
	count int // how many there are, the spare ones among them
}

// checksOf makes a check of each parity: the data that it is made of, and itself, come to 0, for each number is its own negative.
func checksOf(matrix [][]byte, data int) checks {
	var c checks
	for i, row := range matrix[data:] {
		copy(c.rows[i][:], row)
		c.rows[i][data+i] = 1
		c.count++
	}
	return c
}

// spare looks for a spare check that has shard i.
func (c *checks) spare(i int) (int, bool) {
	for r := c.told; r < c.count; r++ {
		if c.rows[r][i] != 0 {
			return r, true
		}
	}
	return 0, false
}

// tell has a spare check tell lost shard i from now on: it has 1 times that shard, and no other check has it. It answers false, if no spare check can.
func (c *checks) tell(i int) bool {
	r, ok := c.spare(i)
	if !ok {
		return false
	}
	c.rows[c.told], c.rows[r] = c.rows[r], c.rows[c.told]
	c.scale(c.told, i)
	c.workOff(c.told, i)
	c.told++
	return true
}

// leave gives a spare check up, so that no check has shard i any more. It answers false, if no spare check can.
func (c *checks) leave(i int) bool {
	r, ok := c.spare(i)
	if !ok {
		return false
	}
	c.workOff(r, i)
	c.count--
	c.rows[r] = c.rows[c.count]
	return true
}

// scale multiplies check r so that it has 1 times shard i.
func (c *checks) scale(r, i int) {
	inverse := field.Inv(c.rows[r][i])
	for j, n := range c.rows[r] {
		c.rows[r][j] = field.Mul(n, inverse)
	}
}

// workOff takes shard i out of all checks but check r, by adding multiples of that one.
func (c *checks) workOff(r, i int) {
	inverse := field.Inv(c.rows[r][i])
	for k := range c.count {
		if k != r {
			field.AddTimes(c.rows[k][:], c.rows[r][:], field.Mul(c.rows[k][i], inverse))
		}
	}
}

// reads tells whether shard i is one that lost shards are told by.
func (c *checks) reads(i int) bool {
	for r := range c.told {
		if c.rows[r][i] != 0 {
			return true
		}
	}
	return false
}
