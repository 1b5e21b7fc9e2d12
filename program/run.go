package program

import (
	"bytes"

	"stripes/api"
	"stripes/field"
)

// Run runs a program over shards; one that is nil is lost.
func Run(g api.Program, shards [][]byte) ([]api.Output, error) {
	if err := Check(g, len(shards)); err != nil {
		return nil, err
	}
	length, err := loadedLength(g.Steps, shards)
	if err != nil {
		return nil, err
	}
	regs := makeRegs(g.Regs, length)
	var out []api.Output
	for _, s := range g.Steps {
		switch s.Kind {
		case api.Load:
			copy(regs[s.A], shards[s.B])
		case api.Add:
			field.AddTimes(regs[s.A], regs[s.B], s.C)
		case api.Put:
			out = append(out, api.Output{Shard: s.B, Bytes: bytes.Clone(regs[s.A])})
		}
	}
	return out, nil
}

// loadedLength tells how many bytes the shards have that the steps load, which must be the same of all; 0, if none is loaded.
func loadedLength(steps []api.Step, shards [][]byte) (int, error) {
	length, seen := 0, false
	for _, s := range steps {
		if s.Kind != api.Load {
			continue
		}
		shard := shards[s.B]
		if !seen {
			length, seen = len(shard), true
		}
		if shard == nil || len(shard) != length || length > api.MaxLength {
			return 0, api.ErrShards
		}
	}
	return length, nil
}

// makeRegs makes registers of one length.
func makeRegs(regs, length int) [][]byte {
	l := make([][]byte, regs)
	for i := range l {
		l[i] = make([]byte, length)
	}
	return l
}
