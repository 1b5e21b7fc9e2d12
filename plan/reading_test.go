package plan

import (
	"slices"
	"testing"

	"stripes/api"
	"stripes/code"
	"stripes/program"
	"stripes/set"
)

var few = []api.Params{{Data: 1, Local: 1, Global: 4}, {Data: 2, Local: 1, Global: 3}, {Data: 4, Local: 2, Global: 2}, {Data: 3, Local: 3, Global: 1}, {Data: 6, Local: 3, Global: 1}, {Data: 5, Local: 1, Global: 4}}

// puts is the set that a program puts out.
func puts(g api.Program) set.Set {
	var l set.Set
	for _, s := range g.Steps {
		if s.Kind == api.Put {
			l = l.With(s.B)
		}
	}
	return l
}

func TestReadingTellsAllDataByAsManyShards(t *testing.T) {
	for _, p := range few {
		data := set.First(p.Data)
		for lost := range set.First(p.Shards()) + 1 {
			g, err := Reading(p, lost)
			if !code.Decodable(p, uint64(lost)) {
				if err != error(api.ErrLost) || g.Steps != nil {
					t.Fatalf("%v, lost %b: %v, %v, want ErrLost alone", p, lost, g, err)
				}
				continue
			}
			loads := program.Loads(g)
			switch read := loads | data&^lost; {
			case err != nil || program.Check(g, p.Shards()) != nil:
				t.Fatalf("%v, lost %b: %v, %v", p, lost, g, err)
			case loads&lost != 0 || puts(g)&lost != lost:
				t.Fatalf("%v, lost %b: %b is loaded, and %b put out", p, lost, loads, puts(g))
			case read.Size() > p.Data:
				t.Fatalf("%v, lost %b: %b is read", p, lost, read)
			}
		}
	}
}

func TestReadingOfWrongParams(t *testing.T) {
	if g, err := Reading(api.Params{Data: 5, Local: 2}, 1); err != error(api.ErrParams) || g.Steps != nil {
		t.Errorf("%v, %v, want ErrParams alone", g, err)
	}
}

// alike tells whether programs are the same.
func alike(a, b api.Program) bool { return a.Regs == b.Regs && slices.Equal(a.Steps, b.Steps) }

func TestAShelfAnswersTheSame(t *testing.T) {
	for room := range 4 {
		s := NewShelf(room)
		for _, p := range few {
			for _, lost := range []set.Set{1, 2, 1, 3, 1, 1, 2, 4, 0, 1} {
				got, err := s.Reading(p, lost)
				want, wrong := Reading(p, lost)
				if err != wrong || !alike(got, want) {
					t.Fatalf("%v, lost %b: %v, %v, want %v, %v", p, lost, got, err, want, wrong)
				}
				got, err = s.Repairing(p, lost)
				want, wrong = Compile(p, uint64(lost))
				if err != wrong || !alike(got, want) {
					t.Fatalf("%v, lost %b, to be repaired: %v, %v, want %v, %v", p, lost, got, err, want, wrong)
				}
			}
		}
	}
}
