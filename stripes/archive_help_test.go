package stripes_test

import (
	"bytes"
	"maps"
	"math/rand/v2"
	"slices"
	"strings"
	"testing"

	"stripes/api"
	"stripes/stripes"
)

// few are params of many kinds: groups of one and of many, with and without global parities, as few and as many shards as there can be.
var few = []api.Params{
	{Data: 1, Local: 1}, {Data: 1, Local: 1, Global: 4}, {Data: 2, Local: 1}, {Data: 2, Local: 1, Global: 3}, {Data: 4, Local: 2, Global: 2},
	{Data: 3, Local: 3, Global: 1}, {Data: 6, Local: 3, Global: 1}, {Data: 12, Local: 1, Global: 3}, {Data: 12, Local: 4}, {Data: 8, Local: 4, Global: 4},
}

// objects is a plain list of objects, by their names.
type objects map[string][]byte

// open opens an archive that must be there.
func open(t *testing.T, a *api.Array, p api.Params, cache int) *stripes.Archive {
	t.Helper()
	s, err := stripes.Open(a, p, api.Options{Cache: cache})
	if err != nil || s == nil {
		t.Fatalf("Open(%v, cache %d): %v, %v", p, cache, s, err)
	}
	return s
}

// answers holds the error of a call against what it should be.
func answers(t *testing.T, what string, err error, want api.Errno) {
	t.Helper()
	if api.Tell(err) != want {
		t.Fatalf("%s: %v, want error %d", what, err, want)
	}
}

// holds holds that an archive has just these objects.
func holds(t *testing.T, what string, s *stripes.Archive, want objects) {
	t.Helper()
	l, err := s.List()
	if err != nil {
		t.Fatalf("%s: List: %v", what, err)
	}
	var entries []api.Entry
	for _, name := range slices.SortedFunc(maps.Keys(want), strings.Compare) {
		entries = append(entries, api.Entry{Name: name, Size: len(want[name])})
	}
	if !slices.Equal(l, entries) {
		t.Fatalf("%s: List tells %v, want %v", what, l, entries)
	}
	for name, data := range want {
		b, err := s.Get(name)
		if err != nil || !bytes.Equal(b, data) {
			t.Fatalf("%s: Get(%q): %x, %v, want %x", what, name, b, err, data)
		}
	}
}

// quantum is how many bytes the document reckons for a stripe.
func quantum(p api.Params) int { return p.Data * 44 }

// stripesOf tells how many stripes the document reckons for so many bytes.
func stripesOf(p api.Params, size int) int { return size/quantum(p) + 1 }

// promised tells whether the document promises that objects have room on drives of so many blocks.
func promised(p api.Params, blocks int, l objects) bool {
	need := 2 * stripesOf(p, 200*len(l))
	for _, data := range l {
		need += stripesOf(p, len(data))
	}
	return need <= blocks-8
}

// edges are sizes of objects about all that the document names.
func edges(p api.Params) []int {
	q := quantum(p)
	l := []int{0, 1, 43, 44, 45, q - 1, q, q + 1, 2*q - 1, 2 * q, 2*q + 1, 1499, 1500}
	return slices.DeleteFunc(l, func(n int) bool { return n > api.MaxObject })
}

// drawBytes draws so many bytes.
func drawBytes(r *rand.Rand, n int) []byte { return drawRows(r, 1, n)[0] }

// filled makes an archive with an object of each size at the edges.
func filled(t *testing.T, p api.Params, cache int) (*api.Array, *stripes.Archive, objects) {
	t.Helper()
	r := draw()
	a := api.NewArray(p.Shards(), 500)
	s, l := open(t, a, p, cache), objects{}
	for i, size := range edges(p) {
		name := string(drawBytes(r, 1+i%api.MaxName))
		l[name] = drawBytes(r, size)
		answers(t, "Put", s.Put(name, l[name]), api.OK)
	}
	a.Reads()
	return a, s, l
}

// written has all blocks of an array.
func written(t *testing.T, a *api.Array) []api.Block {
	t.Helper()
	var l []api.Block
	for d := range a.Drives() {
		for b := range a.Blocks() {
			x, err := a.Read(d, b)
			if err != nil {
				t.Fatal(err)
			}
			l = append(l, x)
		}
	}
	a.Reads()
	return l
}

// total adds up how often the drives were read.
func total(reads []int) int {
	n := 0
	for _, r := range reads {
		n += r
	}
	return n
}
