package stripes_test

import (
	"math"
	"math/bits"
	"testing"

	"stripes/api"
	"stripes/stripes"
)

func TestP7Examples(t *testing.T) {
	p := api.Params{Data: 4, Local: 2, Global: 2}
	for _, x := range []struct {
		lost uint64
		want bool
	}{
		{0, true}, {1 << 0, true}, {1 << 4, true}, {1<<0 | 1<<4, true}, {1<<0 | 1<<1 | 1<<2, true}, {1<<0 | 1<<1 | 1<<2 | 1<<3, false},
		{1 << 6, true}, {1<<4 | 1<<5 | 1<<6 | 1<<7, true}, {1<<1 | 1<<4 | 1<<5 | 1<<6 | 1<<7, false}, {1<<8 - 1, false},
	} {
		if got := stripes.Decodable(p, x.lost); got != x.want {
			t.Errorf("Decodable(%v, %b) = %v", p, x.lost, got)
		}
	}
}

// enough tells for each set of rows whether they tell all the data: whether some of them make a square whose determinant is not 0.
// Determinants have no signs here, for each number of the field is its own negative.
func enough(m [][]byte, width int) []bool {
	tells := make([]bool, 1<<len(m))
	// squares[c] is the determinant of the rows picked so far and the columns c.
	var pick func(row int, picked uint, squares []byte)
	pick = func(row int, picked uint, squares []byte) {
		if bits.OnesCount(picked) == width {
			tells[picked] = squares[1<<width-1] != 0
			return
		}
		if bits.OnesCount(picked)+len(m)-row < width {
			return
		}
		pick(row+1, picked, squares)
		wider := make([]byte, 1<<width)
		for c := range squares {
			for j := range width {
				if squares[c] != 0 && c>>j&1 == 0 {
					wider[c|1<<j] ^= product(m[row][j], squares[c])
				}
			}
		}
		pick(row+1, picked|1<<row, wider)
	}
	squares := make([]byte, 1<<width)
	squares[0] = 1
	pick(0, 0, squares)
	for set := range tells {
		for i := range m {
			tells[set] = tells[set] || set>>i&1 == 1 && tells[set&^(1<<i)]
		}
	}
	return tells
}

// decodable holds Decodable against that, at every so-manieth set of lost shards.
func decodable(t *testing.T, p api.Params, every int) {
	t.Helper()
	tells := enough(matrix(p), p.Data)
	all := uint64(1)<<p.Shards() - 1
	for lost := uint64(0); lost <= all; lost += uint64(every) {
		want := tells[all&^lost]
		for _, beyond := range []uint64{0, ^all, all + 1, 1 << 63} {
			if got := stripes.Decodable(p, lost|beyond); got != want {
				t.Fatalf("Decodable(%v, %b) = %v, want %v", p, lost|beyond, got, want)
			}
		}
	}
}

func TestP7AllSets(t *testing.T) {
	for p := range rightParams() {
		if p.Shards() <= 9 {
			decodable(t, p, 1)
		}
	}
}

func TestP7GreatParams(t *testing.T) {
	for _, p := range []api.Params{{Data: 12, Local: 4}, {Data: 12, Local: 1, Global: 3}, {Data: 8, Local: 4, Global: 4}, {Data: 10, Local: 2, Global: 4}} {
		decodable(t, p, 17)
	}
}

func TestP7Params(t *testing.T) {
	for p := range params() {
		if got := stripes.Decodable(p, 0); got != right(p) {
			t.Errorf("Decodable(%v, 0) = %v", p, got)
		}
		if stripes.Decodable(p, math.MaxUint64) {
			t.Errorf("Decodable(%v, all) is true", p)
		}
	}
	for _, n := range []int{math.MaxInt, math.MinInt} {
		if stripes.Decodable(api.Params{Data: n, Local: n, Global: n}, 0) || stripes.Decodable(api.Params{Data: 4, Local: 2, Global: n}, 0) {
			t.Errorf("Decodable of params of %d is true", n)
		}
	}
}
