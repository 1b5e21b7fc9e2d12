package stripes_test

import (
	"fmt"
	"math"
	"testing"

	"stripes/api"
	"stripes/stripes"
)

func TestP5Examples(t *testing.T) {
	m, err := stripes.Matrix(api.Params{Data: 2, Local: 1, Global: 1})
	wants(t, "Matrix(2, 1, 1)", m, err, [][]byte{{1, 0}, {0, 1}, {1, 1}, {142, 244}})
	m, err = stripes.Matrix(api.Params{Data: 4, Local: 2, Global: 2})
	wants(t, "Matrix(4, 2, 2)", m, err, [][]byte{
		{1, 0, 0, 0}, {0, 1, 0, 0}, {0, 0, 1, 0}, {0, 0, 0, 1},
		{1, 1, 0, 0}, {0, 0, 1, 1},
		{71, 167, 122, 186}, {167, 71, 186, 122},
	})
	m, err = stripes.Matrix(api.Params{Data: 5, Local: 2, Global: 0})
	refuses(t, "Matrix(5, 2, 0)", m, err, api.ErrParams)
}

// cell tells by the document's words what stands in the matrix.
func cell(p api.Params, shard, j int) byte {
	switch {
	case shard < p.Data && shard == j:
		return 1
	case shard < p.Data:
		return 0
	case shard >= p.Data+p.Local:
		return inverse(byte(p.Data+(shard-p.Data-p.Local)) ^ byte(j))
	}
	size := p.Data / p.Local
	if first := (shard - p.Data) * size; first <= j && j < first+size {
		return 1
	}
	return 0
}

// matrix tells it all.
func matrix(p api.Params) [][]byte {
	m := make([][]byte, p.Data+p.Local+p.Global)
	for i := range m {
		for j := range p.Data {
			m[i] = append(m[i], cell(p, i, j))
		}
	}
	return m
}

func TestP5AllParams(t *testing.T) {
	n := 0
	for p := range params() {
		m, err := stripes.Matrix(p)
		if !right(p) {
			refuses(t, fmt.Sprintf("Matrix(%v)", p), m, err, api.ErrParams)
			continue
		}
		n++
		wants(t, fmt.Sprintf("Matrix(%v)", p), m, err, matrix(p))
	}
	if n < 50 {
		t.Errorf("only %d params were right", n)
	}
}

func TestP5Bounds(t *testing.T) {
	for _, p := range []api.Params{{Data: 1, Local: 1}, {Data: 12, Local: 4}, {Data: 12, Local: 1, Global: 3}, {Data: 8, Local: 4, Global: 4}} {
		if m, err := stripes.Matrix(p); err != nil || len(m) != p.Shards() {
			t.Errorf("Matrix(%v): %d rows, %v", p, len(m), err)
		}
	}
	for _, p := range []api.Params{
		{}, {Data: 0, Local: 1}, {Data: 1, Local: 0}, {Data: 13, Local: 1}, {Data: 10, Local: 5}, {Data: 4, Local: 2, Global: -1}, {Data: 4, Local: 2, Global: 5},
		{Data: 4, Local: 3}, {Data: 2, Local: 4}, {Data: 12, Local: 1, Global: 4}, {Data: 12, Local: 4, Global: 1}, {Data: -4, Local: -2},
		{Data: math.MaxInt, Local: 1, Global: 1}, {Data: math.MinInt, Local: -1}, {Data: 4, Local: math.MaxInt}, {Data: 4, Local: 2, Global: math.MinInt},
		{Data: math.MaxInt, Local: math.MaxInt, Global: 2}, {Data: math.MinInt, Local: math.MinInt, Global: math.MinInt}, {Data: 256 + 4, Local: 256 + 2, Global: 256},
	} {
		m, err := stripes.Matrix(p)
		refuses(t, fmt.Sprintf("Matrix(%v)", p), m, err, api.ErrParams)
	}
}
