package stripes_test

import (
	"bytes"
	"fmt"
	"slices"
	"testing"

	"stripes/api"
)

func TestP2PutWritesIntoNoByte(t *testing.T) {
	for _, p := range few {
		s := open(t, api.NewArray(p.Shards(), 400), p, 0)
		for i, size := range append(edges(p), 1501, 3000) {
			data := drawRows(draw(), 1, size)
			untouched(t, "Put", data, func(l [][]byte) { s.Put(fmt.Sprint(i), l[0]) })
			untouched(t, "Put of an object that is there", data, func(l [][]byte) { s.Put(fmt.Sprint(i), l[0]) })
		}
		for i := range 100 {
			data := drawRows(draw(), 1, 1500)
			untouched(t, "Put till the drives are full", data, func(l [][]byte) { s.Put(fmt.Sprint("more ", i), l[0]) })
		}
	}
}

func TestP2PutKeepsNothing(t *testing.T) {
	for _, p := range few {
		a := api.NewArray(p.Shards(), 400)
		s, l := open(t, a, p, 0), objects{}
		for i, size := range edges(p) {
			name, data := fmt.Sprint(i), drawBytes(draw(), size)
			l[name] = bytes.Clone(data)
			answers(t, "Put", s.Put(name, data), api.OK)
			clear(data)
		}
		holds(t, "the data were changed later", s, l)
		holds(t, "the data were changed later, opened anew", open(t, a, p, 0), l)
	}
}

func TestP2GetAndListAreFresh(t *testing.T) {
	for _, p := range few {
		a, s, l := filled(t, p, 2)
		for _, d := range []int{-1, 0} {
			a.Lose(d)
			for name, data := range l {
				one, _ := s.Get(name)
				two, _ := s.Get(name)
				apart(t, "Get", bytes.Clone(data), one, two)
			}
			one, _ := s.List()
			two, _ := s.List()
			for i := range one[:cap(one)] {
				one[:cap(one)][i] = api.Entry{Name: "other", Size: 9}
			}
			if slices.Equal(one, two) {
				t.Fatalf("%v: two Lists share", p)
			}
			holds(t, "what was answered was written into", s, l)
		}
	}
}
