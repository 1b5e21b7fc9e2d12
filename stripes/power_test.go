package stripes_test

import (
	"fmt"
	"iter"
	"maps"
	"testing"

	"stripes/api"
	"stripes/stripes"
)

// without holds that an archive without power answers just that, whatever it is asked.
func without(t *testing.T, s *stripes.Archive) {
	t.Helper()
	for _, name := range []string{"", "a", "new"} {
		answers(t, "Put without power", s.Put(name, nil), api.ErrPower)
		answers(t, "Delete without power", s.Delete(name), api.ErrPower)
		gotNot(t, s, name, api.ErrPower)
	}
	answers(t, "Scrub without power", s.Scrub(), api.ErrPower)
	for _, d := range []int{-1, 0, 99} {
		answers(t, "Replace without power", s.Replace(d), api.ErrPower)
	}
	if l, err := s.List(); l != nil || err != error(api.ErrPower) {
		t.Fatalf("List without power: %v, %v", l, err)
	}
}

// reopened opens an archive, though the power is cut at each write of Open.
func reopened(t *testing.T, a *api.Array, p api.Params) *stripes.Archive {
	t.Helper()
	for writes := 0; ; writes++ {
		a.Cut(writes)
		s, err := stripes.Open(a, p, api.Options{})
		if err == nil {
			a.Restore()
			return s
		}
		if s != nil || api.Tell(err) != api.ErrPower {
			t.Fatalf("%v: Open, cut behind %d writes: %v, %v", p, writes, s, err)
		}
		opensNot(t, a, p, 0, api.ErrPower)
		a.Restore()
	}
}

// change is a call that makes other objects of an archive's objects.
type change struct {
	call func(s *stripes.Archive) error
	make func(l objects)
}

// adding puts an object.
func adding(name string, data []byte) change {
	return change{func(s *stripes.Archive) error { return s.Put(name, data) }, func(l objects) { l[name] = data }}
}

// removing deletes one.
func removing(name string) change {
	return change{func(s *stripes.Archive) error { return s.Delete(name) }, func(l objects) { delete(l, name) }}
}

// scrubbing changes no object.
func scrubbing() change { return change{(*stripes.Archive).Scrub, func(objects) {}} }

// replacing neither.
func replacing(d int) change {
	return change{func(s *stripes.Archive) error { return s.Replace(d) }, func(objects) {}}
}

// left tells the objects that an archive has behind a change of them at which the power was cut: as they were before it, or as they are behind it.
func left(t *testing.T, s *stripes.Archive, before, behind objects) objects {
	t.Helper()
	l, err := s.List()
	if err != nil {
		t.Fatalf("List: %v", err)
	}
	if len(l) == len(before) {
		return before
	}
	return behind
}

// cuts goes through the arrays that a change leaves when the power is cut at each of its writes, and at none, with the objects that they have then.
func cuts(t *testing.T, p api.Params, whole *api.Array, before objects, c change) iter.Seq2[*api.Array, objects] {
	behind := maps.Clone(before)
	c.make(behind)
	return func(yield func(*api.Array, objects) bool) {
		for writes, done := 0, false; !done; writes++ {
			a := whole.Copy()
			s := open(t, a, p, 0)
			a.Cut(writes)
			err := c.call(s)
			if done = err == nil; !done {
				answers(t, "the call at which the power is cut", err, api.ErrPower)
				without(t, s)
			}
			a.Restore()
			l := behind
			if !done {
				without(t, s)
				s = reopened(t, a, p)
				l = left(t, s, before, behind)
			}
			holds(t, fmt.Sprint(p, ": cut behind ", writes, " writes"), s, l)
			holds(t, "opened again", reopened(t, a, p), l)
			if !yield(a, l) {
				return
			}
		}
	}
}

// unread has the drives with a block that cannot be read.
func unread(a *api.Array) uint64 {
	var l uint64
	for d := range a.Drives() {
		for b := range a.Blocks() {
			if _, err := a.Read(d, b); api.Tell(err) == api.ErrBlock {
				l |= 1 << d
			}
		}
	}
	return l
}

// cutDrive is the drive with the block that was cut; any one, if that was written again.
func cutDrive(a *api.Array) int {
	if bad := shardsOf(unread(a)); len(bad) > 0 {
		return bad[0]
	}
	return a.Drives() / 2
}

// stays holds that an archive has the same objects again and again, though a drive fails, and the power is cut at each write by which it is mended.
func stays(t *testing.T, p api.Params, a *api.Array, l objects, d int) {
	t.Helper()
	r := draw()
	for _, fail := range faults() {
		fail(r, a, d)
		holds(t, "a drive failed", reopened(t, a, p), l)
		if isLost(a, d) {
			a.Renew(d)
		}
		for _, c := range []change{scrubbing(), replacing(d)} {
			for writes, done := 0, false; !done; writes++ {
				s := reopened(t, a, p)
				a.Cut(writes)
				err := c.call(s)
				if done = err == nil; !done {
					answers(t, "mending at which the power is cut", err, api.ErrPower)
				}
				a.Restore()
				holds(t, "a drive is mended", reopened(t, a, p), l)
			}
		}
	}
}

func TestP12StaysWheneverThePowerIsCut(t *testing.T) {
	t.Parallel()
	for _, p := range few {
		a := api.NewArray(p.Shards(), 120)
		s, l := open(t, a, p, 0), objects{}
		for i, size := range []int{0, 100, 600, 44} {
			c := adding(fmt.Sprint(i), drawBytes(draw(), size))
			for range cuts(t, p, a, l, c) {
			}
			answers(t, "Put", c.call(s), api.OK)
			c.make(l)
		}
		for name := range maps.Clone(l) {
			c := removing(name)
			for range cuts(t, p, a, l, c) {
			}
			answers(t, "Delete", c.call(s), api.OK)
			c.make(l)
		}
	}
}

func TestP12StaysWhenThePowerIsCutAgain(t *testing.T) {
	t.Parallel()
	for _, p := range few[:5] {
		whole := api.NewArray(p.Shards(), 40)
		l := objects{"a": {1, 2, 3}, "b": {}}
		for name, data := range l {
			answers(t, "Put", open(t, whole, p, 0).Put(name, data), api.OK)
		}
		seen := map[int]int{}
		for a, l := range cuts(t, p, whole, l, adding("c", []byte{4})) {
			for a, l := range cuts(t, p, a, l, adding("d", []byte{5, 6})) {
				for _, l := range cuts(t, p, a, l, removing("a")) {
					seen[len(l)]++
				}
			}
		}
		if len(seen) != 4 {
			t.Errorf("%v: the archives have %v objects", p, seen)
		}
	}
}

func TestP18EveryWriteOfEachCall(t *testing.T) {
	t.Parallel()
	for _, p := range few {
		whole, l := some(t, p)
		changes := []change{adding("new", nil), adding("new", drawBytes(draw(), 300)), removing("object 3"), scrubbing(), replacing(0), replacing(p.Shards() - 1)}
		for i, c := range changes {
			seen, count := map[int]int{}, 0
			for a, l := range cuts(t, p, whole, l, c) {
				seen[len(l)]++
				if count++; count%9 == 1 {
					stays(t, p, a, l, cutDrive(a))
				}
			}
			if i < 3 && len(seen) != 2 {
				t.Errorf("%v, change %d: the archives have %v objects", p, i, seen)
			}
		}
	}
}

func TestP18OpenOfANewArray(t *testing.T) {
	t.Parallel()
	for _, p := range few {
		for writes := 0; ; writes++ {
			a := api.NewArray(p.Shards(), 20)
			a.Cut(writes)
			s, err := stripes.Open(a, p, api.Options{})
			if err == nil {
				break
			}
			if s != nil || err != error(api.ErrPower) {
				t.Fatalf("%v: Open of a new array, cut behind %d writes: %v, %v", p, writes, s, err)
			}
			opensNot(t, a, p, 0, api.ErrPower)
			a.Restore()
			holds(t, "a new array", reopened(t, a, p), objects{})
			stays(t, p, a, objects{}, cutDrive(a))
			for range cuts(t, p, a, objects{}, adding("a", []byte{1})) {
			}
		}
	}
}

func TestP18OpenOfAnArrayWithObjects(t *testing.T) {
	t.Parallel()
	for _, p := range few {
		whole, l := some(t, p)
		for d := range p.Shards() {
			a := whole.Copy()
			a.Renew(d)
			a.Cut(0)
			opensNot(t, a, p, 0, api.ErrPower)
			opensNot(t, a, p, 64, api.ErrPower)
			a.Restore()
			holds(t, "behind the cut", reopened(t, a, p), l)
			stays(t, p, a, l, d)
		}
	}
}

func TestP18NoPowerAtAllTimes(t *testing.T) {
	p := few[4]
	a, l := some(t, p)
	s := open(t, a, p, 0)
	a.Cut(0)
	holds(t, "nothing is written yet", s, l)
	answers(t, "Put", s.Put("", nil), api.ErrName)
	answers(t, "Delete", s.Delete("none"), api.ErrMissing)
	answers(t, "Replace", s.Replace(-1), api.ErrDrive)
	answers(t, "Put", s.Put("new", nil), api.ErrPower)
	without(t, s)
	opensNot(t, a, p, 0, api.ErrPower)
	a.Restore()
	without(t, s)
	holds(t, "with power again", open(t, a, p, 0), l)
}
