// Package program checks the programs that repair shards, runs them, and writes and reads them as bytes.
package program

import (
	"stripes/api"
	"stripes/set"
)

// Check tells whether a program can be run over so many shards.
func Check(g api.Program, shards int) error {
	if !bounded(g) {
		return api.ErrProgram
	}
	for _, s := range g.Steps {
		if !fits(s, g.Regs, shards) {
			return api.ErrProgram
		}
	}
	return nil
}

// bounded tells whether a program has neither more registers nor more steps than one may have.
func bounded(g api.Program) bool {
	return within(g.Regs, api.MaxRegs+1) && len(g.Steps) <= api.MaxSteps
}

// fits tells whether a step is of a kind, and of the registers and shards that there are.
func fits(s api.Step, regs, shards int) bool {
	switch s.Kind {
	case api.Load, api.Put:
		return within(s.A, regs) && within(s.B, shards)
	case api.Add:
		return within(s.A, regs) && within(s.B, regs) && s.A != s.B
	}
	return false
}

// within tells whether n is one of the numbers from 0 to end - 1.
func within(n, end int) bool { return n >= 0 && n < end }

// Loads tells which shards a program loads, of one that Check finds right.
func Loads(g api.Program) set.Set {
	var l set.Set
	for _, s := range g.Steps {
		if s.Kind == api.Load {
			l = l.With(s.B)
		}
	}
	return l
}
