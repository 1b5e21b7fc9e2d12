package stripes_test

import (
	"fmt"
	"iter"
	"maps"
	"testing"

	"stripes/api"
	"stripes/stripes"
)

// without holds that an archive without power answers just that, whatever it is asked.
func without(t *testing.T, s *stripes.Archive) {
	t.Helper()
	for _, name := range []string{"", "a", "new"} {
		answers(t, "Put without power", s.Put(name, nil), api.ErrPower)
		answers(t, "Delete without power", s.Delete(name), api.ErrPower)
		gotNot(t, s, name, api.ErrPower)
	}
	answers(t, "Scrub without power", s.Scrub(), api.ErrPower)
	for _, d := range []int{-1, 0, 99} {
		answers(t, "Replace without power", s.Replace(d), api.ErrPower)
	}
	if l, err := s.List(); l != nil || err != error(api.ErrPower) {
		t.Fatalf("List without power: %v, %v", l, err)
	}
}

// reopened opens an archive, though the power is cut at each write of Open.
func reopened(t *testing.T, a *api.Array, p api.Params) *stripes.Archive {
	t.Helper()
	for writes := 0; ; writes++ {
		a.Cut(writes)
		s, err := stripes.Open(a, p, api.Options{})
		a.Restore()
		if err == nil {
			return s
		}
		if s != nil || api.Tell(err) != api.ErrPower {
			t.Fatalf("%v: Open, cut behind %d writes: %v, %v", p, writes, s, err)
		}
	}
}

// change is a call that makes other objects of an archive's objects.
type change struct {
	call func(s *stripes.Archive) error
	make func(l objects)
}

// adding puts an object.
func adding(name string, data []byte) change {
	return change{func(s *stripes.Archive) error { return s.Put(name, data) }, func(l objects) { l[name] = data }}
}

// removing deletes one.
func removing(name string) change {
	return change{func(s *stripes.Archive) error { return s.Delete(name) }, func(l objects) { delete(l, name) }}
}

// cuts goes through the arrays that a change leaves when the power is cut at each of its writes, and at none, with the objects that they have then.
func cuts(t *testing.T, p api.Params, whole *api.Array, before objects, c change) iter.Seq2[*api.Array, objects] {
	behind := maps.Clone(before)
	c.make(behind)
	return func(yield func(*api.Array, objects) bool) {
		for writes, done := 0, false; !done; writes++ {
			a := whole.Copy()
			s := open(t, a, p, 0)
			a.Cut(writes)
			err := c.call(s)
			if done = err == nil; !done {
				answers(t, "the call at which the power is cut", err, api.ErrPower)
				without(t, s)
			}
			a.Restore()
			if !done {
				without(t, s)
			}
			s = reopened(t, a, p)
			l := behind
			if n, _ := s.List(); !done && len(n) == len(before) {
				l = before
			}
			holds(t, fmt.Sprint(p, ": cut behind ", writes, " writes"), s, l)
			holds(t, "opened again", open(t, a, p, 0), l)
			if !yield(a, l) {
				return
			}
		}
	}
}

func TestP12StaysWheneverThePowerIsCut(t *testing.T) {
	for _, p := range few {
		a := api.NewArray(p.Shards(), 120)
		s, l := open(t, a, p, 0), objects{}
		for i, size := range []int{0, 100, 600, 44} {
			c := adding(fmt.Sprint(i), drawBytes(draw(), size))
			for range cuts(t, p, a, l, c) {
			}
			answers(t, "Put", c.call(s), api.OK)
			c.make(l)
		}
		for name := range maps.Clone(l) {
			c := removing(name)
			for range cuts(t, p, a, l, c) {
			}
			answers(t, "Delete", c.call(s), api.OK)
			c.make(l)
		}
	}
}

func TestP12StaysWhenThePowerIsCutAgain(t *testing.T) {
	for _, p := range few[:5] {
		whole := api.NewArray(p.Shards(), 40)
		l := objects{"a": {1, 2, 3}, "b": {}}
		for name, data := range l {
			answers(t, "Put", open(t, whole, p, 0).Put(name, data), api.OK)
		}
		seen := map[int]int{}
		for a, l := range cuts(t, p, whole, l, adding("c", []byte{4})) {
			for a, l := range cuts(t, p, a, l, adding("d", []byte{5, 6})) {
				for _, l := range cuts(t, p, a, l, removing("a")) {
					seen[len(l)]++
				}
			}
		}
		if len(seen) != 4 {
			t.Errorf("%v: the archives have %v objects", p, seen)
		}
	}
}

func TestOpenOfANewArrayWithoutPower(t *testing.T) {
	for _, p := range few {
		a := api.NewArray(p.Shards(), 20)
		a.Cut(0)
		opensNot(t, a, p, 0, api.ErrPower)
		opensNot(t, a, p, 0, api.ErrPower)
		a.Restore()
		holds(t, "a new array", reopened(t, a, p), objects{})
	}
}
