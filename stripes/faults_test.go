package stripes_test

import (
	"fmt"
	"maps"
	"math/rand/v2"
	"slices"
	"testing"

	"stripes/api"
	"stripes/stripes"
)

// small has the params of few shards, of which all sets can be gone through.
func small() []api.Params {
	return slices.DeleteFunc(slices.Clone(few), func(p api.Params) bool { return p.Shards() > 8 })
}

// allAnswers holds that each call of an archive answers as it does where nothing fails.
func allAnswers(t *testing.T, what string, a *api.Array, s *stripes.Archive, p api.Params, l objects) {
	t.Helper()
	holds(t, what, s, l)
	gotNot(t, s, "none", api.ErrMissing)
	gotNot(t, s, "", api.ErrName)
	answers(t, what+": Put", s.Put("object 0", []byte{1}), api.ErrExists)
	answers(t, what+": Put", s.Put("", []byte{1}), api.ErrName)
	answers(t, what+": Put", s.Put("none", make([]byte, 1501)), api.ErrSize)
	answers(t, what+": Put", s.Put("none", make([]byte, 1500)), full(p, a))
	answers(t, what+": Delete", s.Delete("object 1"), api.ErrMissing)
	answers(t, what+": Delete", s.Delete("seventeen bytes .."), api.ErrName)
	if full(p, a) == api.OK {
		answers(t, what+": Delete", s.Delete("none"), api.OK)
	}
	changed := maps.Clone(l)
	changed["new"] = []byte("what is new")
	answers(t, what+": Put", s.Put("new", changed["new"]), api.OK)
	holds(t, what+", behind Put", s, changed)
	holds(t, what+", opened behind Put", open(t, a, p, 1), changed)
	delete(changed, "object 3")
	answers(t, what+": Delete", s.Delete("object 3"), api.OK)
	holds(t, what+", behind Delete", s, changed)
	holds(t, what+", opened behind Delete", open(t, a, p, 2), changed)
	for _, q := range others(p) {
		opensNot(t, a, q, 0, api.ErrParams)
	}
}

// full is what a Put of the greatest object answers on the drives of some.
func full(p api.Params, a *api.Array) api.Errno {
	if stripesOf(p, api.MaxObject) > a.Blocks()/2 {
		return api.ErrFull
	}
	return api.OK
}

func TestP15EveryCallWithFaults(t *testing.T) {
	r := draw()
	for _, p := range small() {
		whole, l := some(t, p)
		for _, lost := range decodables(p) {
			for kind, fail := range faults() {
				if p.Shards() > 6 && r.IntN(3) > 0 {
					continue
				}
				a := whole.Copy()
				s := open(t, a, p, 1)
				for _, d := range shardsOf(lost) {
					fail(r, a, d)
				}
				b := a.Copy()
				what := fmt.Sprintf("%v, lost %b, kind %d", p, lost, kind)
				allAnswers(t, what, a, s, p, l)
				allAnswers(t, what+", opened", b, open(t, b, p, 0), p, l)
			}
		}
	}
}

func TestP15NewArraysWithFaults(t *testing.T) {
	r := draw()
	for _, p := range few {
		for range 60 {
			a := api.NewArray(p.Shards(), 20)
			lost := drawSet(r, p, 0)
			for _, d := range shardsOf(lost) {
				drawFault(r, faults())(r, a, d)
			}
			holds(t, "a new array with faults", open(t, a, p, 0), objects{})
			s := open(t, a, p, 0)
			l := objects{"a": drawBytes(r, 40)}
			answers(t, "Put", s.Put("a", l["a"]), api.OK)
			holds(t, "behind Put", s, l)
			holds(t, "opened behind Put", open(t, a, p, 0), l)
			for _, q := range others(p) {
				opensNot(t, a, q, 0, api.ErrParams)
			}
		}
	}
}

// failing is a walk on which drives fail, as many as may be lost together, and are mended.
type failing struct {
	walk
	bad  uint64 // drives that failed
	lost uint64 // those of them that are lost
}

// fail lets a drive fail.
func (w *failing) fail() {
	d := w.IntN(w.p.Shards())
	if w.bad>>d&1 == 1 || !stripes.Decodable(w.p, w.bad|1<<d) {
		return
	}
	drawFault(w.Rand, faults())(w.Rand, w.array, d)
	w.bad |= 1 << d
	if isLost(w.array, d) {
		w.lost |= 1 << d
	}
}

// replace holds the answer of Replace of any drive, which may have been renewed ahead of it.
func (w *failing) replace(t *testing.T) {
	d := w.IntN(w.p.Shards()+2) - 1
	if d < 0 || d == w.p.Shards() {
		answers(t, "Replace of no drive", w.s.Replace(d), api.ErrDrive)
		return
	}
	if w.lost>>d&1 == 1 {
		answers(t, "Replace of a lost drive", w.s.Replace(d), api.ErrDrive)
		w.array.Renew(d)
		w.lost &^= 1 << d
	}
	if w.IntN(2) == 0 {
		answers(t, "Replace", w.s.Replace(d), api.OK)
		w.bad &^= 1 << d
	}
}

// step does one drawn call, or lets a drive fail.
func (w *failing) step(t *testing.T) {
	switch w.IntN(14) {
	case 0, 1, 2, 3:
		w.put(t)
	case 4, 5:
		w.delete(t)
	case 6, 7:
		w.get(t)
	case 8:
		w.s = open(t, w.array, w.p, w.IntN(65))
	case 9:
		w.replace(t)
	case 10:
		if w.IntN(3) == 0 {
			answers(t, "Scrub", w.s.Scrub(), api.OK)
			w.bad = w.lost
		}
	default:
		w.fail()
	}
}

func TestP15P17InManyOrders(t *testing.T) {
	r := draw()
	for _, p := range few {
		for range 25 {
			a := api.NewArray(p.Shards(), 8+r.IntN(100))
			w := &failing{walk: walk{Rand: r, p: p, array: a, l: objects{}, s: open(t, a, p, r.IntN(3))}}
			for i := range 120 {
				w.step(t)
				if r.IntN(8) == 0 {
					holds(t, fmt.Sprintf("%v, step %d, bad %b, lost %b", p, i, w.bad, w.lost), w.s, w.l)
				}
			}
			holds(t, "at the end", w.s, w.l)
			holds(t, "at the end, opened anew", open(t, a, p, 0), w.l)
		}
	}
}

// ruin loses drives and spoils blocks, as many as it comes. A bit is turned only in blocks in which none was.
type ruin struct {
	*rand.Rand
	array  *api.Array
	turned map[[2]int]int
}

// drives loses some.
func (r *ruin) drives() {
	for d := range r.array.Drives() {
		if r.IntN(2*r.array.Drives()) == 0 {
			r.array.Lose(d)
		}
	}
}

// blocks spoils one of so many.
func (r *ruin) blocks(rare int) {
	for d := range r.array.Drives() {
		for b := range r.array.Blocks() {
			at := [2]int{d, b}
			if r.IntN(rare) > 0 {
				continue
			}
			if r.IntN(2) == 0 {
				r.array.Spoil(d, b, -1)
			} else if r.turned[at] == 0 {
				r.array.Spoil(d, b, r.IntN(512))
				r.turned[at]++
			}
		}
	}
}

func TestP16WhateverIsLostOrBad(t *testing.T) {
	r := draw()
	var lost, found, opened, refused int
	for _, p := range few {
		whole, l := some(t, p)
		for range 150 {
			a := whole.Copy()
			s := open(t, a, p, 1)
			ruin := &ruin{Rand: r, array: a, turned: map[[2]int]int{}}
			if r.IntN(2) == 0 {
				ruin.drives()
			}
			ruin.blocks(1 + r.IntN(20))
			n := hasOrLost(t, "a ruined array", s, l)
			lost, found = lost+n, found+len(l)-n
			if _, ok := opensOrLost(t, "a ruined array", a, p, l); ok {
				opened++
			} else {
				refused++
			}
		}
	}
	if lost == 0 || found == 0 || opened == 0 || refused == 0 {
		t.Errorf("%d objects are lost and %d found, %d arrays opened and %d refused: all should happen", lost, found, opened, refused)
	}
}

// ruined goes on with changes of an archive while all is being ruined.
func ruined(t *testing.T, p api.Params, r *ruin, s *stripes.Archive, l objects) (refused int) {
	t.Helper()
	for i := range 12 {
		r.blocks(4 + r.IntN(60))
		if i%3 == 2 {
			r.drives()
		}
		c := adding(fmt.Sprint("new ", i), drawBytes(r.Rand, r.IntN(200)))
		if names := slices.Sorted(maps.Keys(l)); i%2 == 1 && len(names) > 0 {
			c = removing(names[r.IntN(len(names))])
		}
		switch err := c.call(s); api.Tell(err) {
		case api.OK:
			c.make(l)
		case api.ErrLost:
			refused++
		default:
			t.Fatalf("a change of a ruined archive: %v", err)
		}
		hasOrLost(t, "behind a change of a ruined archive", s, l)
		again, ok := opensOrLost(t, "behind a change of a ruined archive", r.array, p, l)
		if ok && r.IntN(2) == 0 {
			s = again
		}
	}
	return refused
}

func TestP16ChangesOfWhatIsRuined(t *testing.T) {
	r := draw()
	refused := 0
	for _, p := range few {
		whole, l := some(t, p)
		for range 40 {
			a := whole.Copy()
			s := open(t, a, p, 1)
			refused += ruined(t, p, &ruin{Rand: r, array: a, turned: map[[2]int]int{}}, s, maps.Clone(l))
		}
	}
	if refused == 0 {
		t.Error("no change was refused")
	}
}

func TestP16ChangesWithTooFewDrives(t *testing.T) {
	for _, p := range small() {
		whole, l := some(t, p)
		one := objects{"object 0": l["object 0"]}
		bare := api.NewArray(p.Shards(), 20)
		answers(t, "Put", open(t, bare, p, 0).Put("object 0", one["object 0"]), api.OK)
		for lost := range uint64(1) << p.Shards() {
			if stripes.Decodable(p, lost) {
				continue
			}
			for _, x := range []struct {
				array *api.Array
				l     objects
			}{{whole, l}, {bare, one}} {
				a := x.array.Copy()
				s := open(t, a, p, 0)
				for _, d := range shardsOf(lost) {
					a.Lose(d)
				}
				answers(t, "Put on too few drives", s.Put("new", []byte{1}), api.ErrLost)
				answers(t, "Delete on too few drives", s.Delete("object 0"), api.ErrLost)
				hasOrLost(t, "too few drives", s, x.l)
				opensOrLost(t, "too few drives", a, p, x.l)
			}
		}
	}
}
