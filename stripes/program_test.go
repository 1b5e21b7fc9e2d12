package stripes_test

import (
	"bytes"
	"fmt"
	"math"
	"math/rand/v2"
	"slices"
	"testing"

	"stripes/api"
	"stripes/stripes"
)

func load(reg, shard int) api.Step     { return api.Step{Kind: api.Load, A: reg, B: shard} }
func add(reg, of int, c byte) api.Step { return api.Step{Kind: api.Add, A: reg, B: of, C: c} }
func put(reg, shard int) api.Step      { return api.Step{Kind: api.Put, A: reg, B: shard} }
func of(regs int, s ...api.Step) api.Program {
	return api.Program{Regs: regs, Steps: s}
}

// ends are numbers about the bounds and at the ends of all numbers.
var ends = []int{math.MinInt, -257, -256, -1, 0, 1, 2, 3, 4, 31, 32, 33, 255, 256, 257, 65536, math.MaxInt - 1, math.MaxInt}

// inside tells whether a number is one from 0 to end - 1.
func inside(n, end int) bool { return 0 <= n && n < end }

func TestP8CheckRegs(t *testing.T) {
	for _, regs := range ends {
		want := error(nil)
		if regs < 0 || regs > 32 {
			want = api.ErrProgram
		}
		if err := stripes.Check(of(regs), 3); err != want {
			t.Errorf("Check of %d registers: %v, want %v", regs, err, want)
		}
	}
}

func TestP8CheckSteps(t *testing.T) {
	for n, want := range map[int]error{0: nil, 1: nil, 1999: nil, 2000: nil, 2001: api.ErrProgram, 100000: api.ErrProgram} {
		for _, s := range []api.Step{load(1, 0), add(0, 1, 9), put(0, 0)} {
			if err := stripes.Check(of(2, slices.Repeat([]api.Step{s}, n)...), 1); err != want {
				t.Errorf("Check of %d steps %v: %v, want %v", n, s, err, want)
			}
		}
	}
}

// fitting tells by the document's words whether a step is one.
func fitting(s api.Step, regs, shards int) bool {
	if !inside(s.A, regs) {
		return false
	}
	if s.Kind == api.Add {
		return inside(s.B, regs) && s.A != s.B
	}
	return s.Kind <= api.Put && inside(s.B, shards)
}

func TestP8CheckNumbers(t *testing.T) {
	for _, regs := range []int{0, 1, 2, 3, 32} {
		for _, shards := range []int{math.MinInt, -1, 0, 1, 3, 255, 300, math.MaxInt} {
			for _, kind := range []api.Kind{api.Load, api.Add, api.Put, 3, 4, 128, 255} {
				for _, a := range ends {
					for _, b := range ends {
						s := api.Step{Kind: kind, A: a, B: b, C: byte(a)}
						err := stripes.Check(of(regs, s), shards)
						if want := fitting(s, regs, shards); want && err != nil || !want && err != error(api.ErrProgram) {
							t.Fatalf("Check of %v among %d registers and %d shards: %v", s, regs, shards, err)
						}
					}
				}
			}
		}
	}
}

func TestP8CheckLooksAtEachStep(t *testing.T) {
	good := []api.Step{load(0, 0), add(1, 0, 2), put(1, 2), put(1, 2)}
	if err := stripes.Check(of(2, good...), 3); err != nil {
		t.Fatalf("Check of a right program: %v", err)
	}
	for i := range good {
		for _, bad := range []api.Step{load(2, 0), load(0, 3), add(0, 0, 1), add(1, 2, 1), put(-1, 0), put(0, 3), {Kind: 3}} {
			steps := slices.Clone(good)
			steps[i] = bad
			if err := stripes.Check(of(2, steps...), 3); err != error(api.ErrProgram) {
				t.Errorf("Check with %v at %d: %v", bad, i, err)
			}
		}
	}
}

// ran holds what Run answers against what it should.
func ran(t *testing.T, g api.Program, shards [][]byte, want ...api.Output) {
	t.Helper()
	out, err := stripes.Run(g, shards)
	if err != nil || !slices.EqualFunc(out, want, alike) {
		t.Errorf("Run(%v) over %d shards: %v, %v, want %v", g, len(shards), out, err, want)
	}
}

// alike tells whether shards put out are the same.
func alike(a, b api.Output) bool { return a.Shard == b.Shard && bytes.Equal(a.Bytes, b.Bytes) }

// ranNot holds that Run answers an error, and nothing beside it.
func ranNot(t *testing.T, what string, g api.Program, shards [][]byte, want api.Errno) {
	t.Helper()
	if out, err := stripes.Run(g, shards); out != nil || err != error(want) {
		t.Errorf("Run of %s: %v, %v, want %v alone", what, out, err, want)
	}
}

func TestP8RunExamples(t *testing.T) {
	shards := [][]byte{{1, 2, 3}, {4, 5, 6}, nil}
	ran(t, of(2, load(0, 0), load(1, 1), add(0, 1, 1), put(0, 2)), shards, api.Output{Shard: 2, Bytes: []byte{5, 7, 5}})
	ran(t, of(2, load(0, 0), add(1, 0, 2), put(1, 2)), shards, api.Output{Shard: 2, Bytes: []byte{2, 4, 6}})
	ran(t, of(2, put(0, 2)), shards, api.Output{Shard: 2})
	ranNot(t, "a load of a lost shard", of(2, load(0, 2)), shards, api.ErrShards)
	ranNot(t, "an addition of a register to itself", of(2, add(0, 0, 1)), shards, api.ErrProgram)
}

func TestP8RunEdges(t *testing.T) {
	one := [][]byte{{1, 2}, {250, 3}, nil, {}, {9}, make([]byte, 5000)}
	nought := func(shard int) api.Output { return api.Output{Shard: shard, Bytes: []byte{0, 0}} }
	ran(t, of(0), nil)
	ran(t, of(32), [][]byte{nil, nil})
	ran(t, of(1, load(0, 0)), one)
	ran(t, of(2, put(1, 0), load(0, 1), put(1, 5), put(0, 5)), one, nought(0), nought(5), api.Output{Shard: 5, Bytes: one[1]})
	ran(t, of(1, load(0, 0), put(0, 2), load(0, 1), put(0, 2), put(0, 2)), one, api.Output{Shard: 2, Bytes: one[0]}, api.Output{Shard: 2, Bytes: one[1]}, api.Output{Shard: 2, Bytes: one[1]})
	ran(t, of(2, load(0, 0), add(1, 0, 0), put(1, 0), add(1, 0, 1), put(1, 0), add(1, 0, 1), put(1, 0)), one, nought(0), api.Output{Shard: 0, Bytes: one[0]}, nought(0))
	ran(t, of(1, load(0, 3), put(0, 0)), one, api.Output{Shard: 0})
	ran(t, of(1, load(0, 4), put(0, 5)), one, api.Output{Shard: 5, Bytes: []byte{9}})
	ran(t, of(1, api.Step{Kind: api.Load, A: 0, B: 0, C: 7}, api.Step{Kind: api.Put, A: 0, B: 2, C: 9}), one, api.Output{Shard: 2, Bytes: one[0]})
	many := append(make([][]byte, 299), []byte{5})
	ran(t, of(32, load(31, 299), put(31, 298)), many, api.Output{Shard: 298, Bytes: []byte{5}})
}

func TestP8RunLengths(t *testing.T) {
	r := draw()
	for _, n := range []int{1, 63, 4095, 4096} {
		shards := drawRows(r, 2, n)
		want := through([][]byte{{1, 200}}, shards)
		ran(t, of(2, load(0, 0), load(1, 1), add(0, 1, 200), put(0, 1)), shards, api.Output{Shard: 1, Bytes: want[0]})
	}
	for _, n := range []int{4097, 100000} {
		shards := drawRows(r, 2, n)
		ranNot(t, fmt.Sprintf("a load of %d bytes", n), of(2, load(0, 0)), shards, api.ErrShards)
		ranNot(t, fmt.Sprintf("loads of %d bytes", n), of(2, load(0, 0), load(1, 1)), shards, api.ErrShards)
	}
}

func TestP8RunShards(t *testing.T) {
	shards := [][]byte{{1, 2}, {3}, nil, {}, {4, 5, 6}, make([]byte, 4097)}
	for _, l := range [][]int{{2}, {5}, {0, 1}, {1, 0}, {0, 0, 4}, {4, 4, 0}, {0, 2}, {2, 0}, {0, 3}, {3, 0}, {3, 2}, {2, 3}, {2, 2}, {0, 5}, {5, 5}, {3, 5}} {
		steps := []api.Step{put(0, 0)}
		for _, shard := range l {
			steps = append(steps, load(0, shard), put(0, 0))
		}
		ranNot(t, fmt.Sprintf("loads of shards %v", l), of(1, steps...), shards, api.ErrShards)
	}
}

func TestP8RunWrongProgram(t *testing.T) {
	shards := [][]byte{{1}, nil, {2, 3}}
	for _, bad := range []api.Step{load(2, 0), load(0, 3), load(-1, 0), load(0, -1), add(0, 0, 1), add(0, 2, 1), add(2, 0, 1), put(2, 0), put(0, 3), {Kind: 3}} {
		ranNot(t, fmt.Sprint(bad), of(2, bad), shards, api.ErrProgram)
		ranNot(t, fmt.Sprint(bad, " behind a load of a lost shard"), of(2, load(0, 1), bad), shards, api.ErrProgram)
		ranNot(t, fmt.Sprint(bad, " behind a right step"), of(2, put(0, 0), bad), shards, api.ErrProgram)
	}
	ranNot(t, "33 registers", of(33), shards, api.ErrProgram)
	ranNot(t, "-1 registers", of(-1), shards, api.ErrProgram)
	ranNot(t, "2001 steps", of(2, slices.Repeat([]api.Step{load(0, 1)}, 2001)...), shards, api.ErrProgram)
	ranNot(t, "a load without shards", of(1, load(0, 0)), nil, api.ErrProgram)
}

// drawProgram makes a program of so many steps, right for so many shards.
func drawProgram(r *rand.Rand, regs, shards, steps int) api.Program {
	g := of(regs)
	for range steps {
		a, b := r.IntN(regs), r.IntN(regs)
		switch k := r.IntN(5); {
		case k == 0:
			g.Steps = append(g.Steps, load(a, r.IntN(shards)))
		case k == 1:
			g.Steps = append(g.Steps, put(a, r.IntN(shards)))
		case a != b:
			g.Steps = append(g.Steps, add(a, b, byte(r.Uint32())))
		}
	}
	return g
}

// sums tells by which numbers the shards are multiplied to make each one that is put out.
func sums(g api.Program, shards int) (puts []int, rows [][]byte) {
	regs := make([][]byte, g.Regs)
	for i := range regs {
		regs[i] = make([]byte, shards)
	}
	for _, s := range g.Steps {
		switch s.Kind {
		case api.Load:
			regs[s.A] = make([]byte, shards)
			regs[s.A][s.B] = 1
		case api.Add:
			regs[s.A] = through([][]byte{{1, s.C}}, [][]byte{regs[s.A], regs[s.B]})[0]
		case api.Put:
			puts, rows = append(puts, s.B), append(rows, regs[s.A])
		}
	}
	return puts, rows
}

func TestP8RunDrawnPrograms(t *testing.T) {
	r := draw()
	for range 300 {
		shards := drawRows(r, 1+r.IntN(20), 1+r.IntN(30))
		g := drawProgram(r, 1+r.IntN(32), len(shards), r.IntN(100))
		g.Steps = append(g.Steps, load(0, 0), put(0, 0))
		puts, rows := sums(g, len(shards))
		var want []api.Output
		for i, b := range through(rows, shards) {
			want = append(want, api.Output{Shard: puts[i], Bytes: b})
		}
		ran(t, g, shards, want...)
	}
}

func TestP8RunMostSteps(t *testing.T) {
	shard := bytes.Repeat([]byte{7}, 4096)
	g := of(32, append([]api.Step{load(0, 0)}, slices.Repeat([]api.Step{put(0, 0)}, 1999)...)...)
	out, err := stripes.Run(g, [][]byte{shard})
	if err != nil || len(out) != 1999 || !alike(out[1998], api.Output{Bytes: shard}) {
		t.Errorf("Run of 2000 steps: %d put out, %v", len(out), err)
	}
}
