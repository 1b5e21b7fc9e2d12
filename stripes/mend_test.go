package stripes_test

import (
	"fmt"
	"math"
	"testing"

	"stripes/api"
	"stripes/stripes"
)

// lean makes an array like this one, on which only the blocks stand that its archive uses.
func lean(t *testing.T, a *api.Array, p api.Params) *api.Array {
	t.Helper()
	c := a.Copy()
	s := open(t, c, p, 0)
	for d := range p.Shards() {
		c.Renew(d)
		answers(t, "Replace of a renewed drive", s.Replace(d), api.OK)
	}
	return c
}

// mended holds that all blocks that an archive uses are as they were, but on some drives. It tells how many it uses of each drive.
func mended(t *testing.T, what string, a, was *api.Array, but uint64) int {
	t.Helper()
	most := 0
	for d := range a.Drives() {
		used := 0
		for b := range a.Blocks() {
			want, err := was.Read(d, b)
			if err != nil {
				t.Fatal(err)
			}
			if want == (api.Block{}) {
				continue
			}
			used++
			if got, err := a.Read(d, b); but>>d&1 == 0 && (err != nil || got != want) {
				t.Fatalf("%s: block %d of drive %d: %x, %v, want %x", what, b, d, got, err, want)
			}
		}
		most = max(most, used)
	}
	return most
}

func TestMendExamples(t *testing.T) {
	p := api.Params{Data: 4, Local: 2, Global: 2}
	a := api.NewArray(8, 40)
	s := open(t, a, p, 1)
	l := objects{"a": drawBytes(draw(), 100)}
	answers(t, "Put", s.Put("a", l["a"]), api.OK)
	a.Lose(3)
	answers(t, "Replace of a drive that is lost", s.Replace(3), api.ErrDrive)
	a.Renew(3)
	answers(t, "Replace of a drive that was renewed", s.Replace(3), api.OK)
	for _, d := range []int{0, 1, 2} {
		a.Lose(d)
	}
	holds(t, "three other drives are lost", s, l)
	answers(t, "Delete", s.Delete("a"), api.OK)
	answers(t, "Delete again", s.Delete("a"), api.ErrMissing)
}

// scrubbed lets drives fail again and again, and holds that Scrub mends all of it but on those that are lost, and Replace a drive that was lost.
func scrubbed(t *testing.T, p api.Params) {
	t.Helper()
	r := draw()
	whole, l := some(t, p)
	was := lean(t, whole, p)
	a, lost := was.Copy(), uint64(0)
	s := open(t, a, p, r.IntN(3))
	for round := range 25 {
		bad := drawSet(r, p, lost)
		for _, d := range shardsOf(bad &^ lost) {
			switch r.IntN(5) {
			case 0:
				a.Lose(d)
				lost |= 1 << d
			case 1:
				a.Renew(d)
			default:
				drawFault(r, spoils())(r, a, d)
			}
		}
		what := fmt.Sprintf("%v, round %d: bad %b, lost %b", p, round, bad, lost)
		a.Reads()
		answers(t, what+": Scrub", s.Scrub(), api.OK)
		reads := a.Reads()
		used := mended(t, what, a, was, lost)
		for d, n := range reads {
			if lost>>d&1 == 0 && n < used {
				t.Fatalf("%s: Scrub reads %d blocks of drive %d, and %d are used", what, n, d, used)
			}
		}
		holds(t, what, s, l)
		s = open(t, a, p, r.IntN(3))
		holds(t, what+", opened", s, l)
		for _, d := range shardsOf(lost) {
			if r.IntN(2) == 0 {
				continue
			}
			answers(t, what+": Replace", s.Replace(d), api.ErrDrive)
			a.Renew(d)
			answers(t, what+": Replace", s.Replace(d), api.OK)
			lost &^= 1 << d
			mended(t, what, a, was, lost)
		}
	}
}

func TestP17ScrubAgainAndAgain(t *testing.T) {
	for _, p := range few {
		scrubbed(t, p)
	}
}

func TestP17ReplaceAgainAndAgain(t *testing.T) {
	r := draw()
	for _, p := range few {
		whole, l := some(t, p)
		was := lean(t, whole, p)
		for round := range 25 {
			a := was.Copy()
			s := open(t, a, p, r.IntN(3))
			bad := drawSet(r, p, 0)
			for _, d := range shardsOf(bad) {
				drawFault(r, faults())(r, a, d)
			}
			what := fmt.Sprintf("%v, round %d: bad %b", p, round, bad)
			for _, d := range r.Perm(p.Shards()) {
				if bad>>d&1 == 1 && r.IntN(2) == 0 {
					a.Renew(d)
				}
				if isLost(a, d) {
					answers(t, what+": Replace", s.Replace(d), api.ErrDrive)
					continue
				}
				answers(t, what+": Replace", s.Replace(d), api.OK)
				mended(t, what, a, was, ^(uint64(1) << d))
				bad &^= 1 << d
			}
			holds(t, what, s, l)
			mended(t, what, a, was, bad)
			for _, d := range shardsOf(drawSet(r, p, bad) &^ bad) {
				drawFault(r, faults())(r, a, d)
			}
			holds(t, what+", others failed", s, l)
			holds(t, what+", others failed, opened", open(t, a, p, 0), l)
		}
	}
}

func TestP17NothingIsWrittenWhereNothingIsBad(t *testing.T) {
	for _, p := range few {
		a, l := some(t, p)
		s := open(t, a, p, 0)
		a.Cut(0)
		answers(t, "Scrub of a sound array", s.Scrub(), api.OK)
		holds(t, "a sound array", s, l)
	}
}

func TestP17ReplaceWritesAllAnew(t *testing.T) {
	for _, p := range few {
		whole, l := some(t, p)
		was := lean(t, whole, p)
		used := mended(t, "a sound array", was, was, 0)
		for d := range p.Shards() {
			a := was.Copy()
			a.Cut(used)
			answers(t, "Replace of a sound drive", open(t, a, p, 0).Replace(d), api.OK)
			s := open(t, a, p, 0)
			a.Cut(used - 1)
			answers(t, "Replace of a sound drive, cut at the last block", s.Replace(d), api.ErrPower)
			a.Restore()
			holds(t, "behind the cut", open(t, a, p, 0), l)
		}
	}
}

func TestP17NoSuchDrive(t *testing.T) {
	for _, p := range few {
		a, l := some(t, p)
		s := open(t, a, p, 0)
		was := written(t, a)
		for _, d := range []int{-1, -2, p.Shards(), p.Shards() + 1, 63, 64, 1 << 32, math.MinInt, math.MaxInt} {
			answers(t, fmt.Sprint("Replace of drive ", d), s.Replace(d), api.ErrDrive)
		}
		for i, b := range written(t, a) {
			if b != was[i] {
				t.Fatalf("%v: Replace of no drive changed something", p)
			}
		}
		holds(t, "behind Replace of no drive", s, l)
	}
}

func TestP17TooMuchIsBad(t *testing.T) {
	r := draw()
	for _, p := range small() {
		whole, l := some(t, p)
		for bad := range uint64(1) << p.Shards() {
			if stripes.Decodable(p, bad) {
				continue
			}
			a := whole.Copy()
			s := open(t, a, p, 0)
			for _, d := range shardsOf(bad) {
				spoils()[r.IntN(2)](r, a, d)
			}
			what := fmt.Sprintf("%v, bad %b", p, bad)
			answers(t, what+": Scrub", s.Scrub(), api.ErrLost)
			hasOrLost(t, what, s, l)
			d := shardsOf(bad)[0]
			a.Renew(d)
			answers(t, what+": Replace", s.Replace(d), api.ErrLost)
			answers(t, what+": Replace of none", s.Replace(-1), api.ErrDrive)
			a.Lose(d)
			answers(t, what+": Replace of a lost drive", s.Replace(d), api.ErrLost)
			hasOrLost(t, what, s, l)
			opensOrLost(t, what, a, p, l)
		}
	}
}

func TestP17LostDrivesAreNotReplaced(t *testing.T) {
	for _, p := range small() {
		whole, l := some(t, p)
		for _, lost := range decodables(p) {
			a := whole.Copy()
			s := open(t, a, p, 0)
			for _, d := range shardsOf(lost) {
				a.Lose(d)
			}
			for d := range p.Shards() {
				want := api.OK
				if lost>>d&1 == 1 {
					want = api.ErrDrive
				}
				answers(t, fmt.Sprintf("%v, lost %b: Replace of drive %d", p, lost, d), s.Replace(d), want)
			}
			holds(t, "lost drives", s, l)
		}
	}
}
