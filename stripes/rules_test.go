package stripes_test

import (
	"bytes"
	"fmt"
	"testing"

	"stripes/api"
	"stripes/stripes"
)

func TestP1FirstErrorFirst(t *testing.T) {
	for _, data := range [][][]byte{nil, {{1}}, {{1}, {2, 3}}, {make([]byte, 4097)}} {
		s, err := stripes.Encode(api.Params{Data: 5, Local: 2}, data)
		refuses(t, "Encode with wrong params and wrong shards", s, err, api.ErrParams)
	}
}

func TestP1NoPanic(t *testing.T) {
	r := draw()
	odd := []int{-1 << 63, -1, 0, 1, 2, 3, 4, 5, 8, 12, 13, 16, 1<<63 - 1}
	pick := func() int { return odd[r.IntN(len(odd))] }
	for range 20000 {
		p := api.Params{Data: pick(), Local: pick(), Global: pick()}
		data := make([][]byte, r.IntN(14))
		for i := range data {
			data[i] = make([]byte, r.IntN(2))
		}
		m, err := stripes.Matrix(p)
		if (err == nil) != right(p) || (err != nil && m != nil) {
			t.Fatalf("Matrix(%v): %v, %v", p, m, err)
		}
		s, err := stripes.Encode(p, data)
		if err != nil && s != nil || err == nil && !right(p) {
			t.Fatalf("Encode(%v, %v): %v, %v", p, data, s, err)
		}
		if n := stripes.Rank(data); n < 0 || n > 1 {
			t.Fatalf("Rank(%v) = %d", data, n)
		}
	}
}

const spare = 5 // so many bytes, and lists, stand behind what is handed in

// roomy makes lists with spare room behind each, and behind the list of them; all of it is filled.
func roomy(rows [][]byte) (handed, whole [][]byte) {
	for _, row := range rows {
		room := append(bytes.Clone(row), bytes.Repeat([]byte{99}, spare)...)
		whole = append(whole, room)
		handed = append(handed, room[:len(row)])
	}
	for range spare {
		room := bytes.Repeat([]byte{98}, spare)
		whole = append(whole, room)
		handed = append(handed, room)
	}
	return handed[:len(rows)], whole
}

// untouched holds that a call wrote neither into the rows nor into the room behind them.
func untouched(t *testing.T, what string, rows [][]byte, call func([][]byte)) {
	t.Helper()
	handed, whole := roomy(rows)
	_, was := roomy(rows)
	heads := handed[:len(rows)+spare]
	lengths := make([]int, len(heads))
	for i := range heads {
		lengths[i] = len(heads[i])
	}
	call(handed)
	if !same(whole, was) {
		t.Errorf("%s wrote into what was handed in: %v, was %v", what, whole, was)
	}
	for i := range heads {
		if len(heads[i]) != lengths[i] || (lengths[i] > 0 && &heads[i][0] != &whole[i][0]) {
			t.Errorf("%s wrote into the list of lists, at %d", what, i)
		}
	}
}

func TestP2NothingIsWrittenInto(t *testing.T) {
	r := draw()
	for _, rows := range [][][]byte{nil, {{}}, {{0, 1}, {1, 0}}, {{0}, {0, 7, 3}, {5}, {2, 1}}, drawRows(r, 20, 20), drawRows(r, 64, 64), drawRows(r, 65, 65)} {
		untouched(t, "Rank", rows, func(l [][]byte) { stripes.Rank(l) })
	}
	for p := range rightParams() {
		for _, rows := range [][][]byte{drawRows(r, p.Data, 9), drawRows(r, p.Data, 0), drawRows(r, p.Data+1, 3)} {
			untouched(t, fmt.Sprintf("Encode(%v)", p), rows, func(l [][]byte) { stripes.Encode(p, l) })
		}
	}
}

// apart holds that no list of lists shares with another: each is filled to the end of its room, and must then still be as filled.
func apart(t *testing.T, what string, lists ...[]byte) {
	t.Helper()
	fill := func(i int) byte { return byte(i + 1) }
	for i, l := range lists {
		for k := range l[:cap(l)] {
			l[:cap(l)][k] = fill(i)
		}
	}
	for i, l := range lists {
		for _, b := range l[:cap(l)] {
			if b != fill(i) {
				t.Fatalf("%s: list %d shares with list %d", what, i, b-1)
			}
		}
	}
}

func TestP2WhatComesOutIsFresh(t *testing.T) {
	for p := range rightParams() {
		one, _ := stripes.Matrix(p)
		two, _ := stripes.Matrix(p)
		apart(t, fmt.Sprintf("Matrix(%v)", p), append(append([][]byte{}, one...), two...)...)
		if three, err := stripes.Matrix(p); err != nil || !same(three, matrix(p)) {
			t.Errorf("Matrix(%v) hangs on what was done with an earlier answer: %v", p, three)
		}
		data, _ := roomy(drawRows(draw(), p.Data, 6))
		s, err := stripes.Encode(p, data)
		if err != nil {
			t.Fatal(err)
		}
		apart(t, fmt.Sprintf("Encode(%v)", p), append(append([][]byte{}, data...), s...)...)
	}
}

func TestP2NothingIsKept(t *testing.T) {
	p := api.Params{Data: 2, Local: 1, Global: 1}
	data := [][]byte{{1, 2}, {3, 250}}
	s, _ := stripes.Encode(p, data)
	data[0][0], data[1] = 77, nil
	wants(t, "the shards, when the data were changed later", s, nil, [][]byte{{1, 2}, {3, 250}, {2, 248}, {143, 87}})
}
