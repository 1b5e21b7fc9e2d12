package stripes_test

import (
	"bytes"
	"fmt"
	"math/rand/v2"
	"testing"

	"stripes/api"
	"stripes/stripes"
)

// fault is a way in which a drive fails. No block gets more than one bit turned by it.
type fault func(r *rand.Rand, a *api.Array, d int)

// spoils has the faults that are in blocks.
func spoils() []fault {
	return []fault{
		func(r *rand.Rand, a *api.Array, d int) { // no block can be read
			for b := range a.Blocks() {
				a.Spoil(d, b, -1)
			}
		},
		func(r *rand.Rand, a *api.Array, d int) { // each block has a bit turned
			for b := range a.Blocks() {
				a.Spoil(d, b, r.IntN(512))
			}
		},
		func(r *rand.Rand, a *api.Array, d int) { // some of either kind
			for b := range a.Blocks() {
				if r.IntN(3) > 0 {
					a.Spoil(d, b, r.IntN(1024)-512)
				}
			}
		},
		func(r *rand.Rand, a *api.Array, d int) { a.Spoil(d, r.IntN(6), r.IntN(1024)-512) }, // one block
	}
}

// faults has those, and the faults of whole drives.
func faults() []fault {
	return append(spoils(),
		func(r *rand.Rand, a *api.Array, d int) { a.Lose(d) },
		func(r *rand.Rand, a *api.Array, d int) { a.Renew(d) },
		func(r *rand.Rand, a *api.Array, d int) { // one that was renewed fails again
			a.Renew(d)
			a.Spoil(d, r.IntN(6), r.IntN(1024)-512)
		},
	)
}

// drawFault draws one of them.
func drawFault(r *rand.Rand, l []fault) fault { return l[r.IntN(len(l))] }

// isLost tells whether a drive is lost.
func isLost(a *api.Array, d int) bool {
	_, err := a.Read(d, 0)
	return api.Tell(err) == api.ErrDrive
}

// decodables has all sets that may be lost together.
func decodables(p api.Params) []uint64 {
	var l []uint64
	for lost := range uint64(1) << p.Shards() {
		if stripes.Decodable(p, lost) {
			l = append(l, lost)
		}
	}
	return l
}

// drawSet draws drives that may be lost together with those that are: often so many that no further one may.
func drawSet(r *rand.Rand, p api.Params, lost uint64) uint64 {
	rare := r.IntN(4)
	for _, d := range r.Perm(p.Shards()) {
		if more := lost | 1<<d; r.IntN(6) >= rare && stripes.Decodable(p, more) {
			lost = more
		}
	}
	return lost
}

// some makes an archive with a few objects on drives of a few blocks, and some that were deleted.
func some(t *testing.T, p api.Params) (*api.Array, objects) {
	t.Helper()
	r := draw()
	a := api.NewArray(p.Shards(), 60)
	s, l := open(t, a, p, 0), objects{}
	for i, size := range []int{0, 1, 300, quantum(p), 45, 90} {
		name := fmt.Sprint("object ", i)
		l[name] = drawBytes(r, min(size, 300))
		answers(t, "Put", s.Put(name, l[name]), api.OK)
	}
	for _, i := range []int{1, 4} {
		name := fmt.Sprint("object ", i)
		answers(t, "Delete", s.Delete(name), api.OK)
		delete(l, name)
	}
	return a, l
}

// hasOrLost holds that an archive tells just these objects, and that Get answers each as it was put, or ErrLost. It tells how many are lost.
func hasOrLost(t *testing.T, what string, s *stripes.Archive, want objects) int {
	t.Helper()
	l, err := s.List()
	if err != nil || len(l) != len(want) {
		t.Fatalf("%s: List: %v, %v, want %d objects", what, l, err, len(want))
	}
	lost := 0
	for _, e := range l {
		data, there := want[e.Name]
		if !there || len(data) != e.Size {
			t.Fatalf("%s: List tells %v", what, e)
		}
		switch b, err := s.Get(e.Name); {
		case err == error(api.ErrLost) && b == nil:
			lost++
		case err != nil || !bytes.Equal(b, data):
			t.Fatalf("%s: Get(%q): %x, %v, want %x or ErrLost alone", what, e.Name, b, err, data)
		}
	}
	return lost
}

// opensOrLost holds that Open answers ErrLost, or an archive that has just these objects, which may be lost.
func opensOrLost(t *testing.T, what string, a *api.Array, p api.Params, want objects) (*stripes.Archive, bool) {
	t.Helper()
	s, err := stripes.Open(a, p, api.Options{})
	if err != nil {
		if s != nil || err != error(api.ErrLost) {
			t.Fatalf("%s: Open: %v, %v, want ErrLost alone", what, s, err)
		}
		return nil, false
	}
	hasOrLost(t, what, s, want)
	return s, true
}
