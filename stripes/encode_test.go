package stripes_test

import (
	"fmt"
	"math"
	"testing"

	"stripes/api"
	"stripes/stripes"
)

func TestP6Examples(t *testing.T) {
	p := api.Params{Data: 2, Local: 1, Global: 1}
	s, err := stripes.Encode(p, [][]byte{{1, 2}, {3, 250}})
	wants(t, "Encode(2, 1, 1; 1 2; 3 250)", s, err, [][]byte{{1, 2}, {3, 250}, {2, 248}, {143, 87}})
	s, err = stripes.Encode(p, [][]byte{{1, 2}, {3}})
	refuses(t, "Encode(2, 1, 1; 1 2; 3)", s, err, api.ErrShards)
}

func TestP6AllParams(t *testing.T) {
	r := draw()
	for p := range rightParams() {
		data := drawRows(r, p.Data, 1+r.IntN(70))
		s, err := stripes.Encode(p, data)
		wants(t, fmt.Sprintf("Encode(%v)", p), s, err, through(matrix(p), data))
		if !same(s[:p.Data], data) {
			t.Errorf("Encode(%v): the first shards are not the data", p)
		}
	}
}

func TestP6AllBytes(t *testing.T) {
	data := make([][]byte, 2)
	for k := range 256 {
		data[0] = append(data[0], byte(k))
		data[1] = append(data[1], byte(255-k))
	}
	p := api.Params{Data: 2, Local: 2, Global: 4}
	s, err := stripes.Encode(p, data)
	wants(t, "Encode of all bytes", s, err, through(matrix(p), data))
}

func TestP6NoBytes(t *testing.T) {
	for p := range rightParams() {
		s, err := stripes.Encode(p, make([][]byte, p.Data))
		wants(t, fmt.Sprintf("Encode(%v) of nil shards", p), s, err, make([][]byte, p.Shards()))
		for i := range s {
			if s[i] == nil {
				t.Errorf("Encode(%v): shard %d is nil, as if it were lost", p, i)
			}
		}
	}
	s, err := stripes.Encode(api.Params{Data: 2, Local: 1}, [][]byte{{}, nil})
	wants(t, "Encode of an empty and a nil shard", s, err, make([][]byte, 3))
}

func TestP6Lengths(t *testing.T) {
	p := api.Params{Data: 2, Local: 1, Global: 1}
	data := drawRows(draw(), 2, api.MaxLength)
	s, err := stripes.Encode(p, data)
	wants(t, "Encode of 4096 bytes", s, err, through(matrix(p), data))
	for _, n := range []int{api.MaxLength + 1, 100000} {
		s, err = stripes.Encode(p, drawRows(draw(), 2, n))
		refuses(t, fmt.Sprintf("Encode of %d bytes", n), s, err, api.ErrShards)
	}
	s, err = stripes.Encode(api.Params{Data: 1, Local: 1}, drawRows(draw(), 1, api.MaxLength+1))
	refuses(t, "Encode of one shard of 4097 bytes", s, err, api.ErrShards)
}

func TestP6Shards(t *testing.T) {
	p := api.Params{Data: 3, Local: 3, Global: 1}
	for _, data := range [][][]byte{
		nil, {}, {{1}}, {{1}, {2}}, {{1}, {2}, {3}, {4}}, make([][]byte, 2), make([][]byte, 4), make([][]byte, 7), make([][]byte, 5000),
		{{1}, {2}, {3, 4}}, {{1, 2}, {3}, {4}}, {{1}, {}, {3}}, {{1}, {2}, nil}, {nil, {2}, {3}}, {{1}, {2}, make([]byte, 4097)},
	} {
		s, err := stripes.Encode(p, data)
		refuses(t, fmt.Sprintf("Encode of %d shards", len(data)), s, err, api.ErrShards)
	}
}

func TestP6Params(t *testing.T) {
	for p := range params() {
		if !right(p) {
			s, err := stripes.Encode(p, drawRows(draw(), max(p.Data, 0), 3))
			refuses(t, fmt.Sprintf("Encode(%v)", p), s, err, api.ErrParams)
		}
	}
	for _, n := range []int{math.MaxInt, math.MinInt} {
		s, err := stripes.Encode(api.Params{Data: n, Local: n, Global: n}, nil)
		refuses(t, fmt.Sprintf("Encode of params %d", n), s, err, api.ErrParams)
	}
}
