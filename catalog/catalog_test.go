package catalog

import (
	"math/rand/v2"
	"reflect"
	"slices"
	"strings"
	"testing"

	"stripes/api"
)

// stripe is how many bytes a stripe has in these tests.
const stripe = 44

// object makes one with stripes that count up.
func object(name string, size int) Object {
	o := Object{Name: name, Size: size}
	for i := range StripesOf(size, stripe) {
		o.Stripes = append(o.Stripes, 2+i*1000)
	}
	return o
}

// full is a catalog of objects at their bounds.
func full() Catalog {
	return Catalog{object("\x00", 0), object("\x00\x00", 1500), object("a", 44), object("a\x00", 45), object(strings.Repeat("\xff", 16), 1)}
}

func TestPackedComesBack(t *testing.T) {
	for i := range len(full()) + 1 {
		c := full()[:i]
		b := c.Pack()
		if len(b) != c.Length() {
			t.Errorf("%d objects take %d bytes, want %d", i, len(b), c.Length())
		}
		if got, ok := Unpack(b, stripe); !ok || len(got) != i || i > 0 && !reflect.DeepEqual(got, c) {
			t.Errorf("%v comes back as %v, %v", c, got, ok)
		}
	}
}

func TestAnObjectTakesNoMoreThanIsReckoned(t *testing.T) {
	for data := 1; data <= api.MaxData; data++ {
		if n := Packed(StripesOf(api.MaxObject, data*stripe)); n > 200*(data*stripe-4)/(data*stripe) {
			t.Errorf("%d data shards: the greatest object takes %d bytes of a catalog", data, n)
		}
	}
}

func TestStripesOf(t *testing.T) {
	for _, x := range [][2]int{{0, 1}, {1, 1}, {43, 1}, {44, 1}, {45, 2}, {88, 2}, {89, 3}, {1500, 35}} {
		if got := StripesOf(x[0], stripe); got != x[1] {
			t.Errorf("%d bytes make %d stripes, want %d", x[0], got, x[1])
		}
	}
}

func TestWrongBytesAreRefused(t *testing.T) {
	good := full().Pack()
	for n := range good {
		if c, ok := Unpack(good[:n], stripe); ok && !slices.Equal(c.Pack(), good[:n]) {
			t.Errorf("%d bytes of %d are a catalog: %v", n, len(good), c)
		}
	}
	for _, c := range []Catalog{{object("", 0)}, {object(strings.Repeat("a", 17), 0)}, {object("a", 1501)}, {object("b", 0), object("a", 0)}, {object("a", 0), object("a", 9)}} {
		if got, ok := Unpack(c.Pack(), stripe); ok || got != nil {
			t.Errorf("%v is taken as %v", c, got)
		}
	}
}

func TestAnyBytesEnd(t *testing.T) {
	r := rand.New(rand.NewPCG(1, 2))
	for range 20000 {
		b := full().Pack()
		b = b[:r.IntN(len(b)+1)]
		for range min(r.IntN(5), len(b)) {
			b[r.IntN(len(b))] = byte(r.IntN(256))
		}
		if c, ok := Unpack(b, stripe*(1+r.IntN(12))); ok && !slices.Equal(c.Pack(), b) {
			t.Fatalf("%x is taken as %v", b, c)
		}
	}
}

func TestCatalogsAreNotChanged(t *testing.T) {
	c := slices.Grow(full(), 9)
	place, there := c.Find("aa")
	if there || place != 4 {
		t.Fatalf("Find: %d, %v", place, there)
	}
	if d := c.With(place, object("aa", 7)); len(d) != 6 || d[4].Name != "aa" || !reflect.DeepEqual(c, full()) {
		t.Errorf("With makes %v of %v", d, c)
	}
	if place, there := c.Find("a"); !there || place != 2 {
		t.Errorf("Find: %d, %v", place, there)
	}
	if d := c.Without(2); len(d) != 4 || d[2].Name != "a\x00" || !reflect.DeepEqual(c, full()) {
		t.Errorf("Without makes %v of %v", d, c)
	}
}
