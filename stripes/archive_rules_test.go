package stripes_test

import (
	"bytes"
	"fmt"
	"math/rand/v2"
	"slices"
	"testing"

	"stripes/api"
	"stripes/stripes"
)

func TestP2PutWritesIntoNoByte(t *testing.T) {
	for _, p := range few {
		s := open(t, api.NewArray(p.Shards(), 400), p, 0)
		for i, size := range append(edges(p), 1501, 3000) {
			data := drawRows(draw(), 1, size)
			untouched(t, "Put", data, func(l [][]byte) { s.Put(fmt.Sprint(i), l[0]) })
			untouched(t, "Put of an object that is there", data, func(l [][]byte) { s.Put(fmt.Sprint(i), l[0]) })
		}
		for i := range 100 {
			data := drawRows(draw(), 1, 1500)
			untouched(t, "Put till the drives are full", data, func(l [][]byte) { s.Put(fmt.Sprint("more ", i), l[0]) })
		}
	}
}

func TestP2PutKeepsNothing(t *testing.T) {
	for _, p := range few {
		a := api.NewArray(p.Shards(), 400)
		s, l := open(t, a, p, 0), objects{}
		for i, size := range edges(p) {
			name, data := fmt.Sprint(i), drawBytes(draw(), size)
			l[name] = bytes.Clone(data)
			answers(t, "Put", s.Put(name, data), api.OK)
			clear(data)
		}
		holds(t, "the data were changed later", s, l)
		holds(t, "the data were changed later, opened anew", open(t, a, p, 0), l)
	}
}

func TestP2GetAndListAreFresh(t *testing.T) {
	for _, p := range few {
		a, s, l := filled(t, p, 2)
		for _, d := range []int{-1, 0} {
			a.Lose(d)
			for name, data := range l {
				one, _ := s.Get(name)
				two, _ := s.Get(name)
				apart(t, "Get", bytes.Clone(data), one, two)
			}
			one, _ := s.List()
			two, _ := s.List()
			for i := range one[:cap(one)] {
				one[:cap(one)][i] = api.Entry{Name: "other", Size: 9}
			}
			if slices.Equal(one, two) {
				t.Fatalf("%v: two Lists share", p)
			}
			holds(t, "what was answered was written into", s, l)
		}
	}
}

// spoil makes blocks of any drive unreadable, turns bits about, or writes blocks of another place or of any bytes.
func spoil(r *rand.Rand, a *api.Array) {
	d, b := r.IntN(a.Drives()), r.IntN(a.Blocks())
	if r.IntN(2) == 0 {
		b = r.IntN(4) // the first blocks lead to the others
	}
	switch r.IntN(4) {
	case 0:
		a.Spoil(d, b, -1)
	case 1:
		a.Spoil(d, b, r.IntN(512))
	case 2:
		x, _ := a.Read(r.IntN(a.Drives()), r.IntN(a.Blocks()))
		a.Write(d, b, x)
	case 3:
		a.Write(d, b, api.Block(drawBytes(r, api.BlockSize)))
	}
}

func TestP1NoPanicOverSpoiltArrays(t *testing.T) {
	r := draw()
	for _, p := range few {
		whole := api.NewArray(p.Shards(), 40)
		s := open(t, whole, p, 0)
		for i := range 6 {
			s.Put(fmt.Sprint(i), drawBytes(r, r.IntN(200)))
		}
		for range 150 {
			a := whole.Copy()
			for range 1 + r.IntN(200) {
				spoil(r, a)
			}
			s, err := stripes.Open(a, p, api.Options{Cache: r.IntN(65)})
			if err != nil {
				if s != nil {
					t.Fatalf("Open: %v, %v", s, err)
				}
				continue
			}
			for i := range 8 {
				s.Get(fmt.Sprint(i))
				s.Delete(fmt.Sprint(2 * i))
				s.Put(fmt.Sprint(3*i), drawBytes(r, r.IntN(1500)))
				s.List()
				s.Replace(r.IntN(p.Shards()+2) - 1)
				if i%3 == 0 {
					s.Scrub()
				}
			}
		}
	}
}
