package stripes_test

import (
	"bytes"
	"fmt"
	"math/rand/v2"
	"slices"
	"testing"

	"stripes/api"
	"stripes/stripes"
)

// drawOddProgram makes a program of steps that may be wrong in any way.
func drawOddProgram(r *rand.Rand) api.Program {
	pick := func() int { return ends[r.IntN(len(ends))] }
	g := of(pick())
	for range r.IntN(4) {
		g.Steps = append(g.Steps, api.Step{Kind: api.Kind(r.IntN(4)), A: pick(), B: pick(), C: byte(r.IntN(2))})
	}
	return g
}

func TestP1NoPanicOfPrograms(t *testing.T) {
	r := draw()
	shards := [][]byte{{1}, nil, {}, {2}}
	for range 50000 {
		g := drawOddProgram(r)
		n := ends[r.IntN(len(ends))]
		if err := stripes.Check(g, n); err != nil && err != error(api.ErrProgram) {
			t.Fatalf("Check(%v, %d): %v", g, n, err)
		}
		out, err := stripes.Run(g, shards)
		if wrong := stripes.Check(g, len(shards)); wrong != nil && err != wrong || err != nil && out != nil {
			t.Fatalf("Run(%v): %v, %v", g, out, err)
		}
		b, err := stripes.Pack(g)
		if err != nil && (b != nil || err != error(api.ErrProgram)) {
			t.Fatalf("Pack(%v): %x, %v", g, b, err)
		}
		back, err := stripes.Unpack(b)
		if (err == nil) != (b != nil) || err != nil && (back.Regs != 0 || back.Steps != nil) {
			t.Fatalf("Unpack(%x): %v, %v", b, back, err)
		}
	}
}

func TestP1UnpackAnyBytes(t *testing.T) {
	r := draw()
	for range 20000 {
		b := drawRows(r, 1, r.IntN(40))[0]
		if g, err := stripes.Unpack(b); err != nil && (err != error(api.ErrProgram) || g.Regs != 0 || g.Steps != nil) {
			t.Fatalf("Unpack(%x): %v, %v", b, g, err)
		}
	}
}

func TestP2RunWritesIntoNoShard(t *testing.T) {
	r := draw()
	for range 100 {
		rows := drawRows(r, 1+r.IntN(8), r.IntN(9))
		g := drawProgram(r, 1+r.IntN(5), len(rows), 60)
		untouched(t, "Run", rows, func(l [][]byte) { stripes.Run(g, l) })
	}
}

func TestP2NoStepIsWrittenInto(t *testing.T) {
	for _, g := range []api.Program{of(2), of(2, load(0, 0), add(1, 0, 9), put(1, 1)), of(-1, load(0, 0)), of(2, add(1, 1, 1)), of(2, load(0, 0), load(300, 0))} {
		room := append(slices.Clone(g.Steps), put(7, 7), put(8, 8), put(9, 9))
		was := slices.Clone(room)
		g.Steps = room[:len(g.Steps)]
		stripes.Check(g, 2)
		stripes.Run(g, [][]byte{{1}, {2}})
		stripes.Pack(g)
		if !slices.Equal(room, was) {
			t.Errorf("the steps %v became %v", was, room)
		}
	}
}

func TestP2UnpackWritesIntoNoByte(t *testing.T) {
	for _, b := range [][]byte{nil, {0}, {1, 0, 0}, {2, 0, 1, 1, 0, 1, 7}, {2, 0, 1, 2, 0, 1, 7}, {2, 0, 2, 0, 0, 1, 0}} {
		untouched(t, fmt.Sprintf("Unpack(%x)", b), [][]byte{b}, func(l [][]byte) { stripes.Unpack(l[0]) })
	}
}

func TestP2WhatIsPutOutIsFresh(t *testing.T) {
	g := of(2, load(0, 0), put(0, 0), put(0, 0), load(1, 1), put(1, 0), add(0, 1, 1), put(0, 1), put(0, 1))
	shards := [][]byte{{1, 2, 3}, {4, 5, 6}}
	lists := slices.Clone(shards)
	for range 2 {
		out, err := stripes.Run(g, shards)
		if err != nil {
			t.Fatal(err)
		}
		for _, o := range out {
			lists = append(lists, o.Bytes)
		}
	}
	apart(t, "Run", lists...)
}

func TestP2PackIsFresh(t *testing.T) {
	g := of(2, load(0, 0), add(1, 0, 9))
	one, _ := stripes.Pack(g)
	two, _ := stripes.Pack(g)
	apart(t, "Pack", one, two)
	packs(t, g, []byte{2, 0, 2, 0, 0, 0, 0, 1, 1, 0, 9})
}

func TestP2UnpackIsFresh(t *testing.T) {
	b := []byte{2, 0, 2, 0, 0, 0, 0, 1, 1, 0, 9}
	was := bytes.Clone(b)
	one, _ := stripes.Unpack(b)
	two, _ := stripes.Unpack(b)
	clear(b)
	for i := range one.Steps[:cap(one.Steps)] {
		one.Steps[:cap(one.Steps)][i] = put(7, 7)
	}
	if want := []api.Step{load(0, 0), add(1, 0, 9)}; two.Regs != 2 || !slices.Equal(two.Steps, want) {
		t.Errorf("the program hangs on the bytes, or on another answer: %v, want %v", two, want)
	}
	packs(t, two, was)
}
