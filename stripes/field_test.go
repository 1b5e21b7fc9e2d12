package stripes_test

import (
	"testing"

	"stripes/stripes"
)

func TestP3Examples(t *testing.T) {
	for _, x := range [][3]byte{{2, 128, 29}, {255, 255, 226}, {0, 255, 0}, {255, 0, 0}, {1, 255, 255}} {
		if got := stripes.Mul(x[0], x[1]); got != x[2] {
			t.Errorf("Mul(%d, %d) = %d, want %d", x[0], x[1], got, x[2])
		}
	}
	for _, x := range [][2]byte{{0, 0}, {1, 1}, {2, 142}, {3, 244}, {128, 27}} {
		if got := stripes.Inv(x[0]); got != x[1] {
			t.Errorf("Inv(%d) = %d, want %d", x[0], got, x[1])
		}
	}
}

func TestP3AllProducts(t *testing.T) {
	for a := range 256 {
		for b := range 256 {
			if got, want := stripes.Mul(byte(a), byte(b)), product(byte(a), byte(b)); got != want {
				t.Fatalf("Mul(%d, %d) = %d, want %d", a, b, got, want)
			}
		}
	}
}

func TestP3AllInverses(t *testing.T) {
	for a := range 256 {
		if got, want := stripes.Inv(byte(a)), inverse(byte(a)); got != want {
			t.Errorf("Inv(%d) = %d, want %d", a, got, want)
		}
	}
}
