// Package plan makes programs that repair lost shards and load as few of the others as can be.
package plan

import (
	"stripes/api"
	"stripes/code"
)

// Compile makes a program that puts the lost shards out.
func Compile(p api.Params, lost uint64) (api.Program, error) {
	matrix, err := code.Matrix(p)
	if err != nil {
		return api.Program{}, err
	}
	all := first(p.Shards())
	gone := set(lost) & all
	c := checksOf(matrix, p.Data)
	for i := range gone.members() {
		if !c.tell(i) {
			return api.Program{}, api.ErrLost
		}
	}
	return write(fewest(c, all&^gone), gone, all&^gone), nil
}

// write makes the program that adds the lost shards up as the checks tell them.
// Register 0 has the shard that was loaded last, so that none is loaded twice; behind it each lost shard has a register of its own.
func write(c checks, gone, kept set) api.Program {
	g := api.Program{Regs: 1 + gone.size()}
	for i := range kept.members() {
		if !c.reads(i) {
			continue
		}
		g.Steps = append(g.Steps, api.Step{Kind: api.Load, A: 0, B: i})
		for r := range c.told {
			if n := c.rows[r][i]; n != 0 {
				g.Steps = append(g.Steps, api.Step{Kind: api.Add, A: 1 + r, B: 0, C: n})
			}
		}
	}
	register := 0
	for i := range gone.members() {
		register++
		g.Steps = append(g.Steps, api.Step{Kind: api.Put, A: register, B: i})
	}
	return g
}
