package stripes_test

import (
	"bytes"
	"iter"
	"math/rand/v2"
	"slices"
	"testing"

	"stripes/api"
)

// product multiplies by the document's words: the whole product of polynomials first, then what the field's polynomial leaves of it.
func product(a, b byte) byte {
	var whole uint16
	for i := range 8 {
		if b>>i&1 == 1 {
			whole ^= uint16(a) << i
		}
	}
	for i := 14; i >= 8; i-- {
		if whole>>i&1 == 1 {
			whole ^= 0x11d << (i - 8)
		}
	}
	return byte(whole)
}

// inverse looks for the number whose product with a is 1.
func inverse(a byte) byte {
	for b := range 256 {
		if product(a, byte(b)) == 1 {
			return byte(b)
		}
	}
	return 0
}

// right tells by the document's words whether params are right.
func right(p api.Params) bool {
	switch {
	case p.Data < 1, p.Data > 12, p.Local < 1, p.Local > 4, p.Global < 0, p.Global > 4:
		return false
	}
	return p.Data%p.Local == 0 && p.Data+p.Local+p.Global <= 16
}

// params goes through the params about all bounds, right or not.
func params() iter.Seq[api.Params] {
	return func(yield func(api.Params) bool) {
		for d := -2; d <= 18; d++ {
			for l := -2; l <= 7; l++ {
				for g := -2; g <= 7; g++ {
					if !yield(api.Params{Data: d, Local: l, Global: g}) {
						return
					}
				}
			}
		}
	}
}

// rightParams goes through all params that are right.
func rightParams() iter.Seq[api.Params] {
	return func(yield func(api.Params) bool) {
		for p := range params() {
			if right(p) && !yield(p) {
				return
			}
		}
	}
}

// draw makes the same numbers each time.
func draw() *rand.Rand { return rand.New(rand.NewPCG(1, 2)) }

// drawRows makes rows of so many drawn bytes.
func drawRows(r *rand.Rand, rows, length int) [][]byte {
	l := make([][]byte, rows)
	for i := range l {
		l[i] = make([]byte, length)
		for k := range l[i] {
			l[i][k] = byte(r.Uint32())
		}
	}
	return l
}

// same tells whether lists of lists have the same bytes.
func same(a, b [][]byte) bool { return slices.EqualFunc(a, b, bytes.Equal) }

// wants holds what a call answered against what it should have.
func wants(t *testing.T, what string, got [][]byte, err error, want [][]byte) {
	t.Helper()
	if err != nil || !same(got, want) {
		t.Errorf("%s: %v, %v, want %v", what, got, err, want)
	}
}

// refuses holds that a call answered an error, and nothing beside it.
func refuses(t *testing.T, what string, got [][]byte, err error, want api.Errno) {
	t.Helper()
	if got != nil || err != error(want) {
		t.Errorf("%s: %v, %v, want %v alone", what, got, err, want)
	}
}
