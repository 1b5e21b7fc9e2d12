// Package plan makes programs that repair lost shards and load as few of the others as can be.
package plan

import (
	"stripes/api"
	"stripes/code"
	"stripes/set"
)

// Compile makes a program that puts the lost shards out.
func Compile(p api.Params, lost uint64) (api.Program, error) {
	if !code.Right(p) {
		return api.Program{}, api.ErrParams
	}
	all := set.First(p.Shards())
	gone := set.Set(lost) & all
	c, err := checksFor(p, gone)
	if err != nil {
		return api.Program{}, err
	}
	return write(fewest(c, all&^gone), gone, all&^gone), nil
}

// checksFor makes the checks that tell the lost shards, from the least number on.
func checksFor(p api.Params, gone set.Set) (checks, error) {
	matrix, err := code.Matrix(p)
	if err != nil {
		return checks{}, err
	}
	c := checksOf(matrix, p.Data)
	for i := range gone.Members() {
		if !c.tell(i) {
			return checks{}, api.ErrLost
		}
	}
	return c, nil
}

// write makes the program that adds the lost shards up as the checks tell them.
// Register 0 has the shard that was loaded last, so that none is loaded twice; behind it each lost shard has a register of its own.
func write(c checks, gone, kept set.Set) api.Program {
	g := api.Program{Regs: 1 + gone.Size()}
	for i := range kept.Members() {
		if !c.reads(i) {
			continue
		}
		g.Steps = append(g.Steps, api.Step{Kind: api.Load, A: 0, B: i})
		for r := range c.told {
			if n := c.rows[r][i]; n != 0 {
				g.Steps = append(g.Steps, api.Step{Kind: api.Add, A: 1 + r, B: 0, C: n})
			}
		}
	}
	register := 0
	for i := range gone.Members() {
		register++
		g.Steps = append(g.Steps, api.Step{Kind: api.Put, A: register, B: i})
	}
	return g
}
