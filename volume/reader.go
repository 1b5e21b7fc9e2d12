package volume

import (
	"errors"
	"slices"

	"stripes/api"
	"stripes/program"
	"stripes/record"
	"stripes/set"
)

// Reader reads stripes, one behind the other. Of a stripe, it reads no drive more than once.
type Reader struct {
	*Volume
	block  int
	shards [][]byte // nil, if one is not known yet
	gone   set.Set  // shards that cannot be read
	spared set.Set  // shards that are not read as long as the others are enough
}

// Reader makes one.
func (v *Volume) Reader() *Reader {
	return &Reader{Volume: v, shards: make([][]byte, v.params.Shards())}
}

// turn goes to another stripe.
func (r *Reader) turn(block int) {
	clear(r.shards) // what was read of one stripe is not to be taken for a part of the next
	r.block, r.gone, r.spared = block, 0, r.Hollow
}

// Data reads the first bytes of a stripe, as many as are asked for.
func (r *Reader) Data(block, size int) ([]byte, error) {
	r.turn(block)
	count := (size + record.ShardSize - 1) / record.ShardSize
	if err := r.know(set.First(count)); err != nil {
		return nil, err
	}
	return slices.Concat(r.shards[:count]...)[:size:size], nil
}

// Whole reads all shards of a stripe, and works out those that cannot be read: it tells which they are. The shards are there till the next stripe is read.
func (r *Reader) Whole(block int) (shards [][]byte, gone set.Set, err error) {
	r.turn(block)
	r.spared = 0
	r.fetch(r.All())
	if r.gone == 0 {
		return r.shards, 0, nil
	}
	g, err := r.plans.Repairing(r.params, r.gone)
	if err == nil {
		err = r.fill(g)
	}
	if err != nil {
		return nil, 0, err
	}
	return r.shards, r.gone, nil
}

// know reads shards, or works them out.
func (r *Reader) know(wanted set.Set) error {
	for {
		r.fetch(wanted)
		lost := r.gone | r.spared
		if wanted&lost == 0 {
			return nil
		}
		g, err := r.plans.Reading(r.params, lost)
		switch {
		case err != nil && r.spared == 0:
			return err
		case err != nil:
			r.spared = 0
			continue
		}
		r.fetch(program.Loads(g))
		if r.gone|r.spared == lost {
			return r.fill(g)
		}
		// Another plan is due, without those that turned out to be gone.
	}
}

// fetch reads shards, but for those that are known, gone or spared.
func (r *Reader) fetch(shards set.Set) {
	for i := range (shards &^ r.gone &^ r.spared).Members() {
		if r.shards[i] != nil {
			continue
		}
		found, err := r.Read(i, r.block)
		switch x := found.(type) {
		case record.Shard:
			r.shards[i] = x.Bytes[:]
			continue
		case record.Blank:
			r.Hollow = r.Hollow.With(i)
		}
		if errors.Is(err, api.ErrDrive) {
			r.Hollow = r.Hollow.With(i) // what comes in its place is empty
		}
		r.gone = r.gone.With(i)
	}
}

// fill runs a program, and lays what it puts out beside what was read.
func (r *Reader) fill(g api.Program) error {
	out, err := program.Run(g, r.shards)
	for _, o := range out {
		r.shards[o.Shard] = o.Bytes
	}
	return err
}
