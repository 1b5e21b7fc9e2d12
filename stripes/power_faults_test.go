package stripes_test

import (
	"fmt"
	"maps"
	"math/rand/v2"
	"slices"
	"testing"

	"stripes/api"
	"stripes/stripes"
)

// outage is an array on which drives fail and the power is cut, all on drives that may be lost together.
type outage struct {
	*rand.Rand
	p     api.Params
	array *api.Array
	bad   uint64 // drives with faults, blocks that were cut among them
}

// fail lets further drives fail, and those that failed before fail once more. No bit is turned there, for one may be turned already.
func (o *outage) fail() {
	for _, d := range shardsOf(o.bad) {
		switch o.IntN(6) {
		case 0:
			o.array.Lose(d)
		case 1:
			o.array.Renew(d)
		case 2:
			o.array.Spoil(d, o.IntN(8), -1)
		case 3:
			spoils()[0](o.Rand, o.array, d)
		}
	}
	for _, d := range shardsOf(drawSet(o.Rand, o.p, o.bad) &^ o.bad) {
		if o.IntN(3) == 0 {
			drawFault(o.Rand, faults())(o.Rand, o.array, d)
			o.bad |= 1 << d
		}
	}
}

// mend holds that Scrub mends all that is not lost, and Replace the drives that are renewed then.
func (o *outage) mend(t *testing.T, what string, s *stripes.Archive) {
	t.Helper()
	answers(t, what+": Scrub", s.Scrub(), api.OK)
	spoilt := unread(o.array)
	for _, d := range shardsOf(o.bad) {
		if !isLost(o.array, d) {
			o.bad &^= 1 << d
		}
	}
	for _, d := range shardsOf(spoilt) {
		if stripes.Decodable(o.p, o.bad|1<<d) {
			o.array.Renew(d)
			answers(t, what+": Replace", s.Replace(d), api.OK)
		}
	}
}

// counts gives power again. It tells whether the block that was cut counts as a fault: its drive may be lost together with those that have faults. Else the array is again as it was before.
func (o *outage) counts(was *api.Array) bool {
	o.array.Restore()
	bad := o.bad | unread(o.array)
	if !stripes.Decodable(o.p, bad) {
		o.array = was
		return false
	}
	o.bad = bad
	return true
}

// reopened opens an archive, though the power is cut at each write of Open.
func (o *outage) reopened(t *testing.T) *stripes.Archive {
	t.Helper()
	for writes := 0; ; writes++ {
		was := o.array.Copy()
		o.array.Cut(writes)
		s, err := stripes.Open(o.array, o.p, api.Options{Cache: o.IntN(3)})
		if err == nil {
			o.array.Restore()
			return s
		}
		if s != nil || err != error(api.ErrPower) {
			t.Fatalf("%v, bad %b: Open, cut behind %d writes: %v, %v", o.p, o.bad, writes, s, err)
		}
		opensNot(t, o.array, o.p, 0, api.ErrPower)
		o.counts(was)
	}
}

// goesOn holds that the objects are the same again and again, while more fails and the power is cut, and are so behind a Scrub, when other drives fail.
func (o *outage) goesOn(t *testing.T, what string, l objects) {
	t.Helper()
	for range 2 {
		o.fail()
		holds(t, what+", more fails", o.reopened(t), l)
	}
	s := o.reopened(t)
	o.mend(t, what, s)
	o.fail()
	holds(t, what+", others fail behind a Scrub", s, l)
	holds(t, what+", others fail behind a Scrub, opened", o.reopened(t), l)
}

// changesOf has changes of some objects, on an array with faults: each of another kind.
func changesOf(r *rand.Rand, a *api.Array) []change {
	l := []change{adding("new", nil), adding("new", drawBytes(r, 300)), removing("object 3"), scrubbing()}
	for _, d := range r.Perm(a.Drives()) {
		if !isLost(a, d) {
			return append(l, replacing(d))
		}
	}
	return l
}

// cutWithFaults lets the power be cut at each write of a change of what stands on an array with faults. It tells how many of the cut blocks counted.
func cutWithFaults(t *testing.T, broken func() (*outage, *stripes.Archive), before objects, c change) (held int) {
	t.Helper()
	behind := maps.Clone(before)
	c.make(behind)
	for writes := 0; ; writes++ {
		o, s := broken()
		was := o.array.Copy()
		o.array.Cut(writes)
		err := c.call(s)
		what := fmt.Sprintf("%v, bad %b, cut behind %d writes", o.p, o.bad, writes)
		if err == nil {
			o.array.Restore()
			holds(t, what, s, behind)
			o.goesOn(t, what, behind)
			return held
		}
		answers(t, what, err, api.ErrPower)
		without(t, s)
		if !o.counts(was) {
			continue
		}
		without(t, s)
		if o.IntN(2) == 0 {
			o.fail()
		}
		s = o.reopened(t)
		l := left(t, s, before, behind)
		holds(t, what, s, l)
		o.goesOn(t, what, l)
		held++
	}
}

func TestP18WithFaults(t *testing.T) {
	t.Parallel()
	for i, p := range few {
		whole, l := some(t, p)
		held := 0
		for round := range 2 + 20/p.Shards() {
			// The same faults come each time, before the archive is opened or behind that.
			broken := func() (*outage, *stripes.Archive) {
				o := &outage{Rand: rand.New(rand.NewPCG(uint64(i), uint64(round))), p: p, array: whole.Copy()}
				if round%2 == 0 {
					s := open(t, o.array, p, 1)
					o.fail()
					return o, s
				}
				o.fail()
				return o, o.reopened(t)
			}
			o, _ := broken()
			for _, c := range changesOf(o.Rand, o.array) {
				held += cutWithFaults(t, broken, l, c)
			}
		}
		if held < 20 {
			t.Errorf("%v: only %d cut blocks counted", p, held)
		}
	}
}

func TestP18NewArraysWithFaults(t *testing.T) {
	t.Parallel()
	r := draw()
	for _, p := range few {
		held := 0
		for i := range 12 * p.Shards() {
			writes := i % (4 * p.Shards())
			o := &outage{Rand: r, p: p, array: api.NewArray(p.Shards(), 20)}
			o.fail()
			was := o.array.Copy()
			o.array.Cut(writes)
			s, err := stripes.Open(o.array, p, api.Options{})
			if err == nil {
				o.array.Restore()
				o.goesOn(t, "a new array", objects{})
				continue
			}
			if s != nil || err != error(api.ErrPower) {
				t.Fatalf("%v, bad %b: Open of a new array, cut behind %d writes: %v, %v", p, o.bad, writes, s, err)
			}
			if !o.counts(was) {
				continue
			}
			held++
			holds(t, "a new array", o.reopened(t), objects{})
			o.goesOn(t, "a new array", objects{})
			for _, q := range others(p) {
				opensNot(t, o.array, q, 0, api.ErrParams)
			}
		}
		if held < p.Shards() {
			t.Errorf("%v: only %d cut blocks counted", p, held)
		}
	}
}

// dark is a walk on which drives fail and the power is cut.
type dark struct {
	outage
	s *stripes.Archive
	l objects
}

// change draws one of the objects.
func (w *dark) change() change {
	names := slices.Sorted(maps.Keys(w.l))
	if len(names) > w.IntN(6) {
		return removing(names[w.IntN(len(names))])
	}
	name := fmt.Sprint(w.IntN(1000))
	for w.l[name] != nil {
		name += "+"
	}
	return adding(name, drawBytes(w.Rand, w.IntN(250)))
}

// call draws a change, or a call that mends.
func (w *dark) call() change {
	d := w.IntN(w.p.Shards())
	switch k := w.IntN(12); {
	case k == 0:
		return scrubbing()
	case k == 1 && !isLost(w.array, d):
		return replacing(d)
	}
	return w.change()
}

// tillCut does calls till the power is cut behind so many writes, and opens the archive then. It tells whether the cut block counted.
func (w *dark) tillCut(t *testing.T, writes int) bool {
	t.Helper()
	w.array.Cut(writes)
	for {
		was, c := w.array.Copy(), w.call()
		behind := maps.Clone(w.l)
		c.make(behind)
		if err := c.call(w.s); err == nil {
			w.l = behind
			continue
		} else if err != error(api.ErrPower) {
			t.Fatalf("%v, bad %b: %v", w.p, w.bad, err)
		}
		before := w.l
		counted := w.counts(was)
		w.s = w.reopened(t)
		if counted {
			w.l = left(t, w.s, before, behind)
		}
		return counted
	}
}

func TestP12P18InManyOrders(t *testing.T) {
	t.Parallel()
	r := draw()
	for _, p := range few {
		counted := 0
		for range 6 {
			w := &dark{outage: outage{Rand: r, p: p, array: api.NewArray(p.Shards(), 80)}, l: objects{}}
			w.s = w.reopened(t)
			for i := range 30 {
				what := fmt.Sprintf("%v, step %d, bad %b", p, i, w.bad)
				if w.tillCut(t, r.IntN(1+r.IntN(400))) {
					counted++
				}
				holds(t, what, w.s, w.l)
				if r.IntN(3) == 0 {
					w.fail()
					holds(t, what+", drives failed", w.s, w.l)
				}
				if r.IntN(3) == 0 {
					w.goesOn(t, what, w.l)
					w.s = w.reopened(t)
				}
			}
		}
		if counted < 20 {
			t.Errorf("%v: only %d cut blocks counted", p, counted)
		}
	}
}
