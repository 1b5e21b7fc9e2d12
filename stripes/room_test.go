package stripes_test

import (
	"fmt"
	"slices"
	"testing"

	"stripes/api"
	"stripes/stripes"
)

// crowd puts objects as long as the document promises room for them, and then till the drives are full.
type crowd struct {
	p     api.Params
	array *api.Array
	s     *stripes.Archive
	l     objects
}

// crowded makes one, on drives of so many blocks, with names of so many bytes and objects of those sizes in turn.
func crowded(t *testing.T, p api.Params, blocks, name int, sizes ...int) crowd {
	t.Helper()
	c := crowd{p: p, array: api.NewArray(p.Shards(), blocks), l: objects{}}
	c.s = open(t, c.array, p, 0)
	r := draw()
	for i := 0; ; i++ {
		n, data := fmt.Sprintf("%0*d", name, i), drawBytes(r, sizes[i%len(sizes)])
		c.l[n] = data
		err := c.s.Put(n, data)
		if err == nil {
			continue
		}
		answers(t, "Put", err, api.ErrFull)
		if promised(p, blocks, c.l) {
			t.Fatalf("%v: full at %d objects of %v bytes on %d blocks, which have room", p, len(c.l), sizes, blocks)
		}
		delete(c.l, n)
		return c
	}
}

// sizesInTurn has sizes that make the most stripes, the most objects, and mixtures.
func sizesInTurn(p api.Params) [][]int {
	q := quantum(p)
	l := [][]int{{0}, {1}, {1500}, {1499, 0}, {min(q, 1500)}, {q - 1}, {0, 1500, 44, 700, 1}}
	return append(l, edges(p))
}

func TestP12Room(t *testing.T) {
	for _, p := range few {
		for _, blocks := range []int{8, 9, 10, 11, 12, 13, 16, 20, 31, 50, 300} {
			for _, sizes := range sizesInTurn(p) {
				c := crowded(t, p, blocks, api.MaxName, sizes...)
				holds(t, "full drives", c.s, c.l)
			}
		}
	}
}

func TestP12FullChangesNothing(t *testing.T) {
	for _, p := range few {
		for _, sizes := range sizesInTurn(p) {
			c := crowded(t, p, 60, 3, sizes...)
			was := written(t, c.array)
			for _, size := range []int{1500, 1499} {
				answers(t, "Put on full drives", c.s.Put("more", make([]byte, size)), api.ErrFull)
			}
			if !slices.Equal(written(t, c.array), was) {
				t.Fatalf("%v: something was written on full drives", p)
			}
			gotNot(t, c.s, "more", api.ErrMissing)
			holds(t, "full drives", c.s, c.l)
			holds(t, "full drives, opened anew", open(t, c.array, p, 0), c.l)
		}
	}
}

func TestP12RoomIsThereAgain(t *testing.T) {
	for _, p := range few {
		for _, size := range []int{0, 150, 1500} {
			c := crowded(t, p, 90, 1, size)
			last := "0"
			for i := range 50 {
				answers(t, "Delete on full drives", c.s.Delete(last), api.OK)
				delete(c.l, last)
				last = fmt.Sprintf("%16d", i)
				c.l[last] = drawBytes(draw(), size)
				answers(t, "Put in the room of another", c.s.Put(last, c.l[last]), api.OK)
			}
			holds(t, "full drives", c.s, c.l)
			holds(t, "full drives, opened anew", open(t, c.array, p, 0), c.l)
		}
	}
}

// tighten puts ever smaller objects, till there is room for none.
func (c crowd) tighten(t *testing.T) {
	t.Helper()
	for _, size := range []int{1500, 700, 300, 100, 0} {
		for {
			name := fmt.Sprintf("%16d", len(c.l))
			err := c.s.Put(name, make([]byte, size))
			if err != nil {
				answers(t, "Put", err, api.ErrFull)
				break
			}
			c.l[name] = make([]byte, size)
		}
	}
}

func TestP12DeleteOnFullDrives(t *testing.T) {
	for _, p := range few {
		for blocks := 20; blocks < 60; blocks++ {
			c := crowded(t, p, blocks, 2, 0, 0, 0, 300)
			c.tighten(t)
			for name := range c.l {
				a := c.array.Copy()
				answers(t, "Delete on full drives", open(t, a, p, 0).Delete(name), api.OK)
			}
		}
	}
}

func TestP12DeleteAllOnFullDrives(t *testing.T) {
	for _, p := range few {
		for _, sizes := range sizesInTurn(p) {
			c := crowded(t, p, 50, 2, sizes...)
			for name := range c.l {
				answers(t, "Delete on full drives", c.s.Delete(name), api.OK)
				delete(c.l, name)
			}
			holds(t, "all deleted", c.s, objects{})
			holds(t, "all deleted, opened anew", open(t, c.array, p, 0), objects{})
			again := crowded(t, p, 50, 2, sizes...)
			for name, data := range again.l {
				answers(t, "Put of as much as had room", c.s.Put(name, data), api.OK)
			}
			holds(t, "all put again", c.s, again.l)
		}
	}
}
