package stripes_test

import (
	"fmt"
	"math"
	"math/rand/v2"
	"testing"

	"stripes/api"
	"stripes/catalog"
	"stripes/number"
	"stripes/record"
	"stripes/volume"
)

// forger lays records on an array that are right one by one, with right sums, but lead anywhere.
type forger struct {
	*rand.Rand
	p     api.Params
	array *api.Array
	v     *volume.Volume
}

// odd tells whether something is to be other than it should be.
func (f *forger) odd() bool { return f.IntN(12) == 0 }

// number draws one: of a block or beyond all blocks, a small one, or one at the bounds of what a record has room for.
func (f *forger) number() int {
	l := []int{0, 1, 2, 3, 43, 44, 45, 1499, 1500, 1501, math.MaxUint16, math.MaxInt32 - 1, math.MaxInt32, math.MaxInt32 + 1, math.MaxUint32 - 1, math.MaxUint32}
	switch f.IntN(3) {
	case 0:
		return f.array.Blocks() - 3 + f.IntN(6)
	case 1:
		return f.IntN(f.array.Blocks())
	}
	return l[f.IntN(len(l))]
}

// orOdd is the number as it should be, or an odd one.
func (f *forger) orOdd(right int) int {
	if f.odd() {
		return f.number()
	}
	return right
}

// object draws one, in stripes from a number on.
func (f *forger) object(name string, first int) catalog.Object {
	o := catalog.Object{Name: name, Size: f.orOdd(f.IntN(200))}
	count := catalog.StripesOf(min(o.Size, math.MaxUint16), f.v.StripeSize())
	for i := range f.orOdd(count) % 100 {
		o.Stripes = append(o.Stripes, f.orOdd(first+i))
	}
	return o
}

// catalog draws one, whose stripes are free from a number on.
func (f *forger) catalog(free int) catalog.Catalog {
	var c catalog.Catalog
	for i := range f.IntN(5) {
		name := fmt.Sprint(i)
		if f.odd() {
			name = string(drawBytes(f.Rand, f.IntN(20)))
		}
		o := f.object(name, free)
		free += len(o.Stripes)
		c = append(c, o)
	}
	return c
}

// pages writes a catalog in pages, from the stripe 2 on.
func (f *forger) pages(packed []byte) {
	size := f.v.StripeSize() - record.NumberSize
	for i := range (len(packed) + size - 1) / size {
		page := number.Append(nil, uint64(f.orOdd(2+i+1)), record.NumberSize)
		page = append(page, packed[i*size:min((i+1)*size, len(packed))]...)
		f.v.WriteStripe(2+i, page)
	}
}

// root draws one that leads to so many bytes in pages.
func (f *forger) root(length int) record.Root {
	turns := []uint64{0, 1, 2, math.MaxUint64 - 1, math.MaxUint64}
	r := record.Root{Params: f.p, Turn: turns[1+f.IntN(4)], First: f.orOdd(2), Length: f.orOdd(length)}
	if f.odd() {
		r.Turn = 0
	}
	if f.odd() {
		r.Params = api.Params{Data: f.IntN(256), Local: f.IntN(256), Global: f.IntN(256)}
	}
	return r
}

// stray is a record of any kind.
func (f *forger) stray() record.Record {
	switch f.IntN(4) {
	case 0:
		return record.Filled{}
	case 1:
		return record.Blank{}
	case 2:
		return f.root(f.number())
	}
	return record.Shard{Bytes: [record.ShardSize]byte(drawBytes(f.Rand, record.ShardSize))}
}

// forge lays an archive on the array that is nearly right.
func (f *forger) forge() {
	c := f.catalog(6 + f.IntN(3))
	packed := c.Pack()
	f.pages(packed)
	same := f.root(len(packed))
	for d := range f.p.Shards() {
		root := same
		if f.odd() {
			root = f.root(len(packed))
		}
		f.v.Write(d, 0, root)
		f.v.Write(d, 1, record.Filled{})
	}
	for block := range c.Stripes() {
		f.v.WriteStripe(block, drawBytes(f.Rand, f.IntN(f.v.StripeSize()+1)))
	}
	for range f.IntN(1 + f.IntN(30)) {
		d, b := spot(f.Rand, f.array)
		f.v.Write(d, b, f.stray())
	}
}

func TestP19AnyRecords(t *testing.T) {
	t.Parallel()
	r := draw()
	for _, p := range few {
		opened, refused := 0, 0
		for range 300 {
			a := api.NewArray(p.Shards(), 8+r.IntN(40))
			f := &forger{Rand: r, p: p, array: a, v: volume.New(a, p, 0)}
			f.forge()
			if triesAll(t, r, p, a) {
				opened++
			} else {
				refused++
			}
		}
		if opened < 50 || refused < 50 {
			t.Errorf("%v: %d arrays were opened and %d refused: both should happen often", p, opened, refused)
		}
	}
}
