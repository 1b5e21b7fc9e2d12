package field

import (
	"bytes"
	"testing"
)

func TestTableHasTheProducts(t *testing.T) {
	for a := range 256 {
		table := TableOf(byte(a))
		for b := range 256 {
			if got, want := table.Times(byte(b)), Mul(byte(a), byte(b)); got != want {
				t.Fatalf("the table of %d: times %d is %d, want %d", a, b, got, want)
			}
		}
	}
}

func TestAddTimes(t *testing.T) {
	for _, x := range []struct {
		to, from []byte
		c        byte
		want     []byte
	}{
		{[]byte{1, 2, 3}, []byte{4, 5, 6}, 0, []byte{1, 2, 3}},
		{[]byte{1, 2, 3}, []byte{4, 5, 6}, 1, []byte{5, 7, 5}},
		{[]byte{0, 0, 9}, []byte{1, 128, 0}, 2, []byte{2, 29, 9}},
		{[]byte{7, 7}, []byte{1}, 1, []byte{6, 7}},
		{[]byte{7}, []byte{1, 1}, 1, []byte{6}},
		{nil, []byte{1}, 1, nil},
		{[]byte{7}, nil, 1, []byte{7}},
	} {
		to, from := bytes.Clone(x.to), bytes.Clone(x.from)
		AddTimes(to, from, x.c)
		if !bytes.Equal(to, x.want) || !bytes.Equal(from, x.from) {
			t.Errorf("%v and %d times %v: %v (and %v), want %v", x.to, x.c, x.from, to, from, x.want)
		}
	}
}
