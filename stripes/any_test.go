package stripes_test

import (
	"fmt"
	"math"
	"math/rand/v2"
	"strings"
	"testing"

	"stripes/api"
	"stripes/stripes"
)

// known holds that an error is one of the document's, and that with it there is nothing else.
func known(t *testing.T, what string, err error, nothing bool) {
	t.Helper()
	if n := api.Tell(err); n < api.OK || n > api.ErrPower || err != nil && !nothing {
		t.Fatalf("%s: %v, and nothing beside it: %v", what, err, nothing)
	}
}

// tries opens an archive over any array, and makes each call of it. It tells whether it could be opened.
func tries(t *testing.T, r *rand.Rand, p api.Params, a *api.Array) bool {
	t.Helper()
	s, err := stripes.Open(a, p, api.Options{Cache: r.IntN(65)})
	known(t, "Open", err, s == nil)
	if err != nil {
		return false
	}
	for range 3 {
		l, err := s.List()
		known(t, "List", err, l == nil)
		for _, e := range l {
			b, err := s.Get(e.Name)
			known(t, "Get", err, b == nil)
			if err == nil && len(b) != e.Size {
				t.Fatalf("Get(%q) answers %d bytes, List tells %d", e.Name, len(b), e.Size)
			}
			if r.IntN(3) == 0 {
				known(t, "Delete", s.Delete(e.Name), true)
			}
		}
		for _, name := range []string{"", "a", "\x00", strings.Repeat("\xff", 16), "seventeen bytes .", fmt.Sprint(r.IntN(9))} {
			known(t, "Put", s.Put(name, make([]byte, r.IntN(1+r.IntN(1502)))), true)
			b, err := s.Get(name)
			known(t, "Get", err, b == nil)
			if r.IntN(2) == 0 {
				known(t, "Delete", s.Delete(name), true)
			}
		}
		known(t, "Scrub", s.Scrub(), true)
		for _, d := range []int{math.MinInt, -1, r.IntN(p.Shards()), p.Shards(), math.MaxInt} {
			known(t, "Replace", s.Replace(d), true)
		}
	}
	return true
}

// triesAll does so too while the power is cut, and when it is there again.
func triesAll(t *testing.T, r *rand.Rand, p api.Params, a *api.Array) bool {
	t.Helper()
	if r.IntN(3) == 0 {
		a.Cut(r.IntN(1 + r.IntN(200)))
		tries(t, r, p, a)
		a.Restore()
	}
	opened := tries(t, r, p, a)
	for _, q := range others(p)[:min(1, len(others(p)))] {
		tries(t, r, q, a)
	}
	tries(t, r, p, a)
	return opened
}

// mess lays other bytes on an array on which a right archive is.
type mess struct {
	what string
	do   func(r *rand.Rand, a *api.Array)
}

// spot draws a block: often one of the first, for these lead to the others.
func spot(r *rand.Rand, a *api.Array) (d, b int) {
	if r.IntN(2) == 0 {
		return r.IntN(a.Drives()), r.IntN(5)
	}
	return r.IntN(a.Drives()), r.IntN(a.Blocks())
}

// lay writes a block of one array where it stands, or elsewhere, in another.
func lay(from *api.Array, d, b int, to *api.Array, e, c int) {
	if x, err := from.Read(d, b); err == nil {
		to.Write(e, c, x)
	}
}

// swap exchanges two blocks.
func swap(a *api.Array, d, b, e, c int) {
	was := a.Copy()
	lay(was, d, b, a, e, c)
	lay(was, e, c, a, d, b)
}

// noise is a block of drawn bytes, in some of which few bits are set.
func noise(r *rand.Rand) api.Block {
	x := api.Block(drawBytes(r, api.BlockSize))
	shift := r.IntN(9)
	for i := range x {
		x[i] >>= shift
	}
	return x
}

// noises are messes of drawn bytes.
func noises() []mess {
	return []mess{
		{"all bytes are drawn", func(r *rand.Rand, a *api.Array) {
			for d := range a.Drives() {
				for b := range a.Blocks() {
					a.Write(d, b, noise(r))
				}
			}
		}},
		{"the bytes of blocks are drawn", func(r *rand.Rand, a *api.Array) {
			for range 1 + r.IntN(60) {
				d, b := spot(r, a)
				a.Write(d, b, noise(r))
			}
		}},
		{"bytes are turned", func(r *rand.Rand, a *api.Array) {
			for range 1 + r.IntN(60) {
				d, b := spot(r, a)
				x, _ := a.Read(d, b)
				for range 1 + r.IntN(4) {
					x[r.IntN(len(x))] = byte(r.Uint32())
				}
				a.Write(d, b, x)
			}
		}},
		{"blocks are empty, or cannot be read, or have bits turned", func(r *rand.Rand, a *api.Array) {
			for range 1 + r.IntN(60) {
				d, b := spot(r, a)
				if r.IntN(2) == 0 {
					a.Write(d, b, api.Block{})
				}
				a.Spoil(d, b, r.IntN(1024)-512)
			}
		}},
	}
}

// exchanges are messes of an array's own blocks.
func exchanges() []mess {
	return []mess{
		{"blocks are exchanged", func(r *rand.Rand, a *api.Array) {
			for range 1 + r.IntN(30) {
				d, b := spot(r, a)
				e, c := spot(r, a)
				swap(a, d, b, e, c)
			}
		}},
		{"blocks are exchanged between drives", func(r *rand.Rand, a *api.Array) {
			for range 1 + r.IntN(30) {
				d, b := spot(r, a)
				swap(a, d, b, r.IntN(a.Drives()), b)
			}
		}},
		{"blocks are exchanged between numbers, on all drives", func(r *rand.Rand, a *api.Array) {
			for range 1 + r.IntN(4) {
				_, b := spot(r, a)
				_, c := spot(r, a)
				for d := range a.Drives() {
					swap(a, d, b, d, c)
				}
			}
		}},
		{"one block stands everywhere", func(r *rand.Rand, a *api.Array) {
			d, b := spot(r, a)
			for e := range a.Drives() {
				for c := r.IntN(3); c < a.Blocks(); c += 1 + r.IntN(2) {
					lay(a, d, b, a, e, c)
				}
			}
		}},
		{"drives are exchanged", func(r *rand.Rand, a *api.Array) {
			d, e := r.IntN(a.Drives()), r.IntN(a.Drives())
			for b := range a.Blocks() {
				swap(a, d, b, e, b)
			}
		}},
		{"blocks are moved along", func(r *rand.Rand, a *api.Array) {
			was, by := a.Copy(), 1+r.IntN(4)
			for d := range a.Drives() {
				for b := range a.Blocks() {
					lay(was, d, b, a, d, (b+by)%a.Blocks())
				}
			}
		}},
	}
}

// takings are messes of the blocks of another array.
func takings(what string, from *api.Array) []mess {
	return []mess{
		{what + ": its blocks", func(r *rand.Rand, a *api.Array) {
			for range 1 + r.IntN(40) {
				d, b := spot(r, a)
				if r.IntN(2) == 0 {
					lay(from, d, b, a, d, b)
					continue
				}
				e, c := spot(r, a)
				lay(from, d, b, a, e, c)
			}
		}},
		{what + ": its blocks of some numbers", func(r *rand.Rand, a *api.Array) {
			for range 1 + r.IntN(5) {
				_, b := spot(r, a)
				for d := range a.Drives() {
					lay(from, d, b, a, d, b)
				}
			}
		}},
		{what + ": its drives", func(r *rand.Rand, a *api.Array) {
			for _, d := range r.Perm(a.Drives())[r.IntN(a.Drives()):] {
				for b := range a.Blocks() {
					lay(from, d, b, a, d, b)
				}
			}
		}},
	}
}

// peopled makes an archive of drawn objects, on drives of as many blocks as those of some.
func peopled(t *testing.T, r *rand.Rand, p api.Params) *api.Array {
	t.Helper()
	a := api.NewArray(p.Shards(), 60)
	s := open(t, a, p, 0)
	for i := range 2 + r.IntN(8) {
		known(t, "Put", s.Put(fmt.Sprint(i), drawBytes(r, r.IntN(400))), true)
	}
	return a
}

// messesOf has all messes of an array whose archive has such params.
func messesOf(t *testing.T, r *rand.Rand, p api.Params, a *api.Array) []mess {
	t.Helper()
	l := append(noises(), exchanges()...)
	l = append(l, takings("another archive", peopled(t, r, p))...)
	for _, q := range others(p) {
		l = append(l, takings(fmt.Sprint("another archive, of the params ", q), peopled(t, r, q))...)
	}
	later := a.Copy()
	s := open(t, later, p, 0)
	for i := range 4 {
		known(t, "Put", s.Put(fmt.Sprint("later ", i), drawBytes(r, 200)), true)
		known(t, "Delete", s.Delete(fmt.Sprint("object ", i)), true)
	}
	return append(l, takings("the same archive later", later)...)
}

func TestP19AnyBytes(t *testing.T) {
	t.Parallel()
	r := draw()
	for _, p := range few {
		whole, _ := some(t, p)
		l := messesOf(t, r, p, whole)
		opened, refused := 0, 0
		for i := range max(150, 3*len(l)) {
			a := whole.Copy()
			for k := range 1 + i%3 {
				l[(i+k*r.IntN(len(l)))%len(l)].do(r, a)
			}
			if triesAll(t, r, p, a) {
				opened++
			} else {
				refused++
			}
		}
		if opened < 20 || refused < 20 {
			t.Errorf("%v: %d arrays were opened and %d refused: both should happen often", p, opened, refused)
		}
	}
}

func TestP19NewArraysWithAnyBytes(t *testing.T) {
	t.Parallel()
	r := draw()
	for _, p := range few {
		for i := range 60 {
			a := api.NewArray(p.Shards(), 8+i)
			noises()[i%len(noises())].do(r, a)
			triesAll(t, r, p, a)
			for d := range p.Shards() { // what is found first looks new
				a.Write(d, 0, api.Block{})
				a.Write(d, 1, api.Block{})
			}
			triesAll(t, r, p, a)
		}
	}
}
