package volume

import (
	"slices"

	"stripes/api"
	"stripes/code"
	"stripes/record"
	"stripes/set"
)

// WriteStripe writes a stripe of at most StripeSize bytes; those that lack are 0. It answers ErrLost, if so many drives are lost that it could not be read again.
func (v *Volume) WriteStripe(block int, data []byte) error {
	shards, err := code.Encode(v.params, v.cut(data))
	if err != nil {
		return err
	}
	lost := v.WriteShards(block, shards, v.All())
	if lost != 0 && !code.Decodable(v.params, uint64(lost)) {
		return api.ErrLost
	}
	return nil
}

// cut makes the data shards of a stripe.
func (v *Volume) cut(data []byte) [][]byte {
	whole := make([]byte, v.StripeSize())
	copy(whole, data)
	return slices.Collect(slices.Chunk(whole, record.ShardSize))
}

// WriteShards writes shards of a stripe on those drives. It tells which of them are lost.
func (v *Volume) WriteShards(block int, shards [][]byte, drives set.Set) (lost set.Set) {
	for drive := range drives.Members() {
		if v.Write(drive, block, record.Shard{Bytes: [record.ShardSize]byte(shards[drive])}) != nil {
			lost = lost.With(drive)
		}
	}
	return lost
}
