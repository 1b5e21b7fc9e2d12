package stripes_test

import (
	"bytes"
	"fmt"
	"maps"
	"slices"
	"testing"

	"stripes/api"
	"stripes/stripes"
)

// reads tells how often each drive is read by a Get that must answer those bytes.
func reads(t *testing.T, a *api.Array, s *stripes.Archive, name string, want []byte) []int {
	t.Helper()
	a.Reads()
	b, err := s.Get(name)
	if err != nil || !bytes.Equal(b, want) {
		t.Fatalf("Get(%q): %x, %v, want %x", name, b, err, want)
	}
	return a.Reads()
}

// fewReads holds that each object is read by no more blocks than there are data shards of its stripes.
func fewReads(t *testing.T, what string, a *api.Array, s *stripes.Archive, p api.Params, l objects) {
	t.Helper()
	for name, data := range l {
		if got, most := total(reads(t, a, s, name, data)), p.Data*stripesOf(p, len(data)); got > most {
			t.Fatalf("%v, %s: %d blocks are read for %d bytes, want at most %d", p, what, got, len(data), most)
		}
	}
}

func TestP13ReadsOfAWholeArray(t *testing.T) {
	for p := range rightParams() {
		a, s, l := filled(t, p, 0)
		fewReads(t, "nothing is lost", a, s, p, l)
		fewReads(t, "nothing is lost, opened", a, open(t, a, p, 9), p, l)
	}
}

func TestP13ReadsWithOneDriveLost(t *testing.T) {
	for p := range rightParams() {
		whole, _, l := filled(t, p, 0)
		for d := range p.Shards() {
			a := whole.Copy()
			s := open(t, a, p, 1)
			a.Lose(d)
			fewReads(t, fmt.Sprint("drive ", d, " is lost"), a, s, p, l)
		}
	}
}

func TestP13ReadsWithADriveThatIsNotFilled(t *testing.T) {
	for _, p := range few {
		whole, _, l := filled(t, p, 0)
		for d := range p.Shards() {
			a := whole.Copy()
			a.Renew(d)
			s := open(t, a, p, 0)
			fewReads(t, fmt.Sprint("drive ", d, " was renewed"), a, s, p, l)
			more := maps.Clone(l)
			more["more"] = drawBytes(draw(), 1400)
			answers(t, "Put", s.Put("more", more["more"]), api.OK)
			fewReads(t, "behind Put", a, s, p, more)
			fewReads(t, "opened behind Put", a, open(t, a, p, 0), p, more)
			answers(t, "Replace", s.Replace(d), api.OK)
			s = open(t, a, p, 0)
			fewReads(t, "behind Replace", a, s, p, more)
			a.Lose((d + 1) % p.Shards())
			fewReads(t, "another one is lost", a, s, p, more)
		}
	}
}

func TestP13ReadsWhenADriveWasNoticed(t *testing.T) {
	for _, p := range few {
		whole, _, l := filled(t, p, 0)
		for d := range p.Shards() {
			lost, renewed := whole.Copy(), whole.Copy()
			s, x := open(t, lost, p, 0), open(t, renewed, p, 0)
			lost.Lose(d)
			renewed.Renew(d)
			holds(t, "a drive was lost", s, l)
			holds(t, "a drive was renewed", x, l)
			lost.Renew(d)
			fewReads(t, "a drive was lost, and is renewed", lost, s, p, l)
			fewReads(t, "a drive was renewed, which was noticed", renewed, x, p, l)
			answers(t, "Scrub", s.Scrub(), api.OK)
			lost.Lose((d + 1) % p.Shards())
			fewReads(t, "filled, and another one is lost", lost, s, p, l)
		}
	}
}

func TestP13ReadsWithMoreFaults(t *testing.T) {
	r := draw()
	for _, p := range few {
		whole, _, l := filled(t, p, 0)
		for range 40 {
			lost := drawSet(r, p, 0)
			a := whole.Copy()
			s := open(t, a, p, 1)
			for _, d := range shardsOf(lost) {
				drawFault(r, faults())(r, a, d)
			}
			for _, s := range []*stripes.Archive{s, open(t, a, p, 1)} {
				for name, data := range l {
					if got := reads(t, a, s, name, data); slices.Max(got) > stripesOf(p, len(data)) {
						t.Fatalf("%v, lost %b: the drives are read %v times for %d bytes", p, lost, got, len(data))
					}
				}
			}
		}
	}
}

func TestP13ListReadsNothing(t *testing.T) {
	r := draw()
	for i, p := range few {
		a, s, l := filled(t, p, 0)
		reopened := open(t, a, p, 0)
		if i%2 == 1 {
			drawFault(r, faults())(r, a, 0)
		}
		a.Reads()
		for range 3 {
			for _, s := range []*stripes.Archive{s, reopened} {
				if got, err := s.List(); err != nil || len(got) != len(l) {
					t.Fatalf("List: %v, %v", got, err)
				}
			}
			if n := total(a.Reads()); n != 0 {
				t.Fatalf("%v: List reads %d blocks", p, n)
			}
		}
		for name := range l {
			answers(t, "Delete", s.Delete(name), api.OK)
			a.Reads()
			s.List()
			if n := total(a.Reads()); n != 0 {
				t.Fatalf("%v: List behind a Delete reads %d blocks", p, n)
			}
		}
	}
}

// told has what an archive of that cache answers while it is filled, drives are lost and blocks spoilt, and it is read, changed and mended, and how often each drive was read by then.
func told(t *testing.T, p api.Params, cache int) (told []any, counts [][]int) {
	t.Helper()
	r := draw()
	a := api.NewArray(p.Shards(), 120)
	s := open(t, a, p, cache)
	note := func(answers ...any) {
		told, counts = append(told, answers...), append(counts, a.Reads())
	}
	w := &walk{Rand: r, p: p}
	for i := range 250 {
		d, b := r.IntN(p.Shards()), r.IntN(120)
		switch name := w.name(); r.IntN(12) {
		case 0, 1, 2:
			note(api.Tell(s.Put(name, drawBytes(r, w.size()))))
		case 3:
			note(api.Tell(s.Delete(name)))
		case 4:
			l, err := s.List()
			note(l, api.Tell(err))
		case 5:
			note(api.Tell(s.Scrub()))
		case 6:
			note(api.Tell(s.Replace(d)))
		default:
			b, err := s.Get(name)
			note(string(b), api.Tell(err))
		}
		switch {
		case i > 0 && i%60 == 0:
			a.Lose(d)
			var err error
			s, err = stripes.Open(a, p, api.Options{Cache: cache})
			if note(api.Tell(err)); err != nil {
				return told, counts
			}
		case i%40 == 0:
			a.Renew(d)
		case i > 100:
			a.Spoil(d, b, i%300-200)
		}
	}
	return told, counts
}

func TestP14SameForEveryCache(t *testing.T) {
	for _, p := range few {
		want, counts := told(t, p, 0)
		for _, cache := range []int{1, 2, 3, 17, 64} {
			got, n := told(t, p, cache)
			if len(got) != len(want) {
				t.Fatalf("%v: a cache of %d makes %d answers, one of 0 makes %d", p, cache, len(got), len(want))
			}
			for i := range want {
				if !alikeAnswers(got[i], want[i]) {
					t.Fatalf("%v: answer %d is %v with a cache of %d, and %v with one of 0", p, i, got[i], cache, want[i])
				}
			}
			if !slices.EqualFunc(n, counts, slices.Equal) {
				t.Fatalf("%v: other reads with a cache of %d than with one of 0", p, cache)
			}
		}
	}
}

// alikeAnswers tells whether two answers are the same.
func alikeAnswers(a, b any) bool {
	if l, ok := a.([]api.Entry); ok {
		m, ok := b.([]api.Entry)
		return ok && slices.Equal(l, m)
	}
	return a == b
}
