package code

import (
	"math"
	"testing"

	"stripes/api"
)

func TestRight(t *testing.T) {
	params := func(n [3]int) api.Params { return api.Params{Data: n[0], Local: n[1], Global: n[2]} }
	for _, n := range [][3]int{{1, 1, 0}, {12, 1, 0}, {12, 1, 3}, {12, 4, 0}, {8, 4, 4}, {4, 4, 4}, {3, 3, 4}, {10, 2, 4}} {
		if !Right(params(n)) {
			t.Errorf("%v are not right", n)
		}
	}
	for _, n := range [][3]int{{0, 1, 0}, {13, 1, 0}, {1, 0, 0}, {5, 5, 0}, {2, 4, 0}, {12, 1, 4}, {12, 2, 3}, {4, 2, 5}, {4, 2, -1}, {math.MaxInt, 1, 0}, {math.MinInt, -1, 0}, {4, 2, math.MaxInt}, {4, math.MinInt, 0}} {
		if Right(params(n)) {
			t.Errorf("%v are right", n)
		}
	}
}
