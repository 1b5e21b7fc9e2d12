// Package record tells what stands in a block of a drive: a sum over all of it, its kind, and what a block of that kind has.
package record

import (
	"stripes/api"
	"stripes/number"
)

// The kinds of records. None is 0, so that a block that was never written has no kind.
const (
	_ = iota
	rootKind
	filledKind
	shardKind
)

const (
	// ShardSize is how many bytes of a stripe's shard a block has.
	ShardSize = 44

	// NumberSize is how many bytes the number of a block takes.
	NumberSize = 4

	sumSize  = 4
	headSize = api.BlockSize - ShardSize // bytes ahead of a shard
	turnSize = 8
)

// Record is what a block has: a Blank, a Root, a Filled or a Shard.
type Record interface {
	// body is what stands behind the sum.
	body() []byte
}

// Blank is a block that was never written.
type Blank struct{}

// Root tells where the catalog of an archive begins. It stands whole on each drive, for it is read before the params are known.
type Root struct {
	api.Params
	Turn   uint64 // how many roots were written, this one among them
	First  int    // the catalog's first stripe
	Length int    // how many bytes the catalog has
}

// Filled stands on each drive that has all that the archive wrote. One that was put in the place of another lacks it till it is filled.
type Filled struct{}

// Shard is a stripe's shard.
type Shard struct{ Bytes [ShardSize]byte }

func (Blank) body() []byte { return nil }

func (r Root) body() []byte {
	b := []byte{rootKind, byte(r.Data), byte(r.Local), byte(r.Global)}
	b = number.Append(b, r.Turn, turnSize)
	b = number.Append(b, uint64(r.First), NumberSize)
	return number.Append(b, uint64(r.Length), NumberSize)
}

func (Filled) body() []byte { return []byte{filledKind} }

func (s Shard) body() []byte {
	b := make([]byte, api.BlockSize-sumSize)
	b[0] = shardKind
	copy(b[headSize-sumSize:], s.Bytes[:])
	return b
}

// Block writes a record.
func Block(r Record) api.Block {
	var b api.Block
	body := r.body()
	if len(body) > 0 {
		copy(b[sumSize:], body)
		copy(b[:sumSize], number.Append(nil, uint64(sum(b[sumSize:])), sumSize))
	}
	return b
}

// Of reads the record of a block. It answers false, if the block is not just as Block writes one.
func Of(b api.Block) (Record, bool) {
	r := parse(b)
	if Block(r) != b {
		return nil, false
	}
	return r, true
}

// parse reads the record that a block has, if its bytes are right.
func parse(b api.Block) Record {
	switch b[sumSize] {
	case rootKind:
		return rootOf(b[sumSize+1:])
	case filledKind:
		return Filled{}
	case shardKind:
		return Shard{Bytes: [ShardSize]byte(b[headSize:])}
	}
	return Blank{}
}

// rootOf reads a root from what stands behind its kind.
func rootOf(b []byte) Root {
	take := func(size int) uint64 {
		n := number.Of(b[:size])
		b = b[size:]
		return n
	}
	var r Root
	r.Data = int(take(1))
	r.Local = int(take(1))
	r.Global = int(take(1))
	r.Turn = take(turnSize)
	r.First = int(take(NumberSize))
	r.Length = int(take(NumberSize))
	return r
}
