package stripes_test

import (
	"math"
	"slices"
	"testing"

	"stripes/api"
	"stripes/stripes"
)

// opensNot holds that Open answers an error, and nothing beside it.
func opensNot(t *testing.T, a *api.Array, p api.Params, cache int, want api.Errno) {
	t.Helper()
	if s, err := stripes.Open(a, p, api.Options{Cache: cache}); s != nil || err != error(want) {
		t.Fatalf("Open(%d drives of %d blocks, %v, cache %d): %v, %v, want %v alone", a.Drives(), a.Blocks(), p, cache, s, err, want)
	}
}

func TestP11ErrorsInTheirOrder(t *testing.T) {
	good := api.Params{Data: 4, Local: 2, Global: 2}
	arrays := []*api.Array{api.NewArray(8, 8), api.NewArray(8, 7), api.NewArray(7, 8), api.NewArray(9, 8), api.NewArray(0, 8), api.NewArray(8, 0), api.NewArray(-1, -1)}
	for _, a := range arrays {
		fits := a.Drives() == 8 && a.Blocks() == 8
		for _, cache := range []int{math.MinInt, -1, 65, math.MaxInt} {
			opensNot(t, a, good, cache, api.ErrParams)
			opensNot(t, a, api.Params{Data: 5, Local: 2}, cache, api.ErrParams)
		}
		for _, cache := range []int{0, 1, 63, 64} {
			opensNot(t, a, api.Params{Data: 5, Local: 2, Global: 1}, cache, api.ErrParams)
			if !fits {
				opensNot(t, a, good, cache, api.ErrArray)
			}
		}
	}
	for _, cache := range []int{0, 64} {
		holds(t, "a new array of the fewest blocks", open(t, arrays[0], good, cache), objects{})
	}
}

func TestP11NoArray(t *testing.T) {
	if s, err := stripes.Open(nil, few[0], api.Options{}); s != nil || err != error(api.ErrArray) {
		t.Errorf("Open without an array: %v, %v", s, err)
	}
	if s, err := stripes.Open(nil, api.Params{}, api.Options{}); s != nil || err != error(api.ErrParams) {
		t.Errorf("Open without an array and without params: %v, %v", s, err)
	}
}

func TestP11WrongParams(t *testing.T) {
	for p := range params() {
		if right(p) {
			holds(t, "a new array", open(t, api.NewArray(p.Shards(), 8), p, 0), objects{})
			continue
		}
		opensNot(t, api.NewArray(min(max(p.Shards(), 0), 16), 8), p, 0, api.ErrParams)
	}
	for _, n := range []int{math.MinInt, math.MaxInt} {
		for _, p := range []api.Params{{Data: n, Local: 1}, {Data: 4, Local: n}, {Data: 4, Local: 1, Global: n}, {Data: n, Local: n, Global: n}} {
			opensNot(t, api.NewArray(5, 8), p, 0, api.ErrParams)
		}
	}
}

func TestP11RefusedChangesNothing(t *testing.T) {
	a := api.NewArray(8, 8)
	opensNot(t, a, api.Params{Data: 5, Local: 2, Global: 1}, 0, api.ErrParams)
	opensNot(t, a, api.Params{Data: 4, Local: 2, Global: 2}, 65, api.ErrParams)
	opensNot(t, a, api.Params{Data: 4, Local: 2, Global: 1}, 0, api.ErrArray)
	for i, b := range written(t, a) {
		if b != (api.Block{}) {
			t.Fatalf("block %d was written", i)
		}
	}
}

// others has the params of as many shards that are not p.
func others(p api.Params) []api.Params {
	var l []api.Params
	for q := range rightParams() {
		if q != p && q.Shards() == p.Shards() {
			l = append(l, q)
		}
	}
	return l
}

func TestP11OtherParams(t *testing.T) {
	for p := range rightParams() {
		a := api.NewArray(p.Shards(), 30)
		l := objects{}
		s := open(t, a, p, 0)
		for _, name := range []string{"a", "b"} {
			was := written(t, a)
			for _, q := range others(p) {
				opensNot(t, a, q, 0, api.ErrParams)
			}
			if !slices.Equal(written(t, a), was) {
				t.Fatalf("%v: an Open with other params changed something", p)
			}
			holds(t, "behind Opens with other params", s, l)
			holds(t, "opened anew", open(t, a, p, 64), l)
			l[name] = []byte("what is in " + name)
			answers(t, "Put", s.Put(name, l[name]), api.OK)
		}
		if p.Data > 1 {
			opensNot(t, a, api.Params{Data: 1, Local: 1}, 0, api.ErrArray)
		}
	}
}

func TestP11WhatWasLeft(t *testing.T) {
	for _, p := range few {
		a, s, l := filled(t, p, 3)
		holds(t, "the archive", s, l)
		for _, cache := range []int{0, 1, 64} {
			was := written(t, a)
			holds(t, "opened anew", open(t, a, p, cache), l)
			if !slices.Equal(written(t, a), was) {
				t.Fatalf("%v: Open, Get and List changed something", p)
			}
		}
		for name := range l {
			answers(t, "Delete", open(t, a, p, 0).Delete(name), api.OK)
			delete(l, name)
			holds(t, "opened behind a Delete", open(t, a, p, 0), l)
		}
		for _, q := range others(p) {
			opensNot(t, a, q, 0, api.ErrParams)
		}
	}
}

func TestP11CopiesGoTheirOwnWays(t *testing.T) {
	for _, p := range few {
		a, s, l := filled(t, p, 0)
		c := a.Copy()
		answers(t, "Put", s.Put("only here", []byte{1}), api.OK)
		holds(t, "a copy", open(t, c, p, 0), l)
	}
}

func TestP11DrivesHaveShards(t *testing.T) {
	for _, p := range few {
		if p.Shards() > 10 {
			continue
		}
		a, _, l := filled(t, p, 0)
		for lost := range uint64(1) << p.Shards() {
			if !stripes.Decodable(p, lost) {
				continue
			}
			c := a.Copy()
			s := open(t, c, p, 2)
			for _, d := range shardsOf(lost) {
				c.Lose(d)
			}
			holds(t, "with lost drives", s, l)
			holds(t, "opened with lost drives", open(t, c, p, 2), l)
		}
	}
}
