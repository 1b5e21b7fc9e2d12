// Package volume reads and writes the blocks of an array as records and as stripes.
package volume

import (
	"errors"
	"math"

	"stripes/api"
	"stripes/plan"
	"stripes/record"
	"stripes/set"
)

// Volume is an array whose drives have a shard each of every stripe.
type Volume struct {
	array  *api.Array
	params api.Params
	plans  *plan.Shelf

	// Hollow has drives that lack what was written before they were put in the place of others, as far as that was noticed. Stripes are read without them, if the others are enough.
	Hollow set.Set
}

// New makes a volume of an array that has as many drives as there are shards. It keeps so many plans for stripes of which shards are lost.
func New(array *api.Array, p api.Params, plans int) *Volume {
	return &Volume{array: array, params: p, plans: plan.NewShelf(plans)}
}

// Params tells how many shards a stripe has.
func (v *Volume) Params() api.Params { return v.params }

// All is the set of all drives.
func (v *Volume) All() set.Set { return set.First(v.params.Shards()) }

// Blocks tells how many blocks of each drive can be used: those whose numbers have room in a record.
func (v *Volume) Blocks() int { return min(v.array.Blocks(), math.MaxInt32) }

// StripeSize tells how many bytes a stripe has.
func (v *Volume) StripeSize() int { return v.params.Data * record.ShardSize }

// Read reads a block. One whose bytes are not those of a record cannot be read either.
func (v *Volume) Read(drive, block int) (record.Record, error) {
	b, err := v.array.Read(drive, block)
	if err != nil {
		stopWithoutPower(err)
		return nil, err
	}
	r, ok := record.Of(b)
	if !ok {
		return nil, &api.BlockError{Drive: drive, Block: block, Err: api.ErrBlock}
	}
	return r, nil
}

// Write writes a block.
func (v *Volume) Write(drive, block int, r record.Record) error {
	err := v.array.Write(drive, block, record.Block(r))
	stopWithoutPower(err)
	return err
}

// stopWithoutPower panics, if the power is cut: nothing that goes on from here could be read or written. Powered tells it as an error.
func stopWithoutPower(err error) {
	if errors.Is(err, api.ErrPower) {
		panic(err)
	}
}

// Powered does what is to be done with a volume. It answers ErrPower, if the power is cut meanwhile.
func Powered(do func() error) (err error) {
	defer func() {
		cut := recover()
		if cut == nil {
			return
		}
		if e, ok := cut.(error); ok && errors.Is(e, api.ErrPower) {
			err = api.ErrPower
			return
		}
		panic(cut)
	}()
	return do()
}
