package volume

import (
	"stripes/record"
	"stripes/set"
)

// ReadCopies reads a block on each drive: nil, if it cannot be read there.
func (v *Volume) ReadCopies(block int) []record.Record {
	found := make([]record.Record, v.params.Shards())
	for drive := range found {
		if r, err := v.Read(drive, block); err == nil {
			found[drive] = r
		}
	}
	return found
}

// WriteCopies writes the same record on those drives. It tells which of them are lost.
func (v *Volume) WriteCopies(block int, r record.Record, drives set.Set) (lost set.Set) {
	for drive := range drives.Members() {
		if v.Write(drive, block, r) != nil {
			lost = lost.With(drive)
		}
	}
	return lost
}
