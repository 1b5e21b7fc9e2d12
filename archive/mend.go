package archive

import (
	"stripes/api"
	"stripes/record"
	"stripes/set"
)

// choice tells of the drives whose blocks of one number are bad, on which drives that block is to be written anew.
type choice func(bad set.Set) set.Set

// Scrub reads all blocks that the archive uses, and writes the bad ones anew.
func (a *Archive) Scrub() error {
	return a.powered(func() error {
		lost, err := a.mend(func(bad set.Set) set.Set { return bad })
		if err == nil {
			a.volume.Hollow = lost
		}
		return err
	})
}

// Replace writes all blocks of a drive that the archive uses anew.
func (a *Archive) Replace(drive int) error {
	return a.powered(func() error { return a.replace(drive) })
}

func (a *Archive) replace(drive int) error {
	if drive < 0 || drive >= a.volume.Params().Shards() {
		return api.ErrDrive
	}
	this := set.Set(0).With(drive)
	lost, err := a.mend(func(set.Set) set.Set { return this })
	switch {
	case err != nil:
		return err
	case lost != 0:
		return api.ErrDrive
	}
	a.volume.Hollow &^= this
	return nil
}

// mend writes blocks anew, of each number that is used on the drives that are chosen. It tells which of these drives are lost.
// It goes on where a stripe cannot be worked out, so that no other one is lost with it. But a drive is known as filled only behind all stripes.
func (a *Archive) mend(choose choice) (lost set.Set, err error) {
	reader := a.volume.Reader()
	for block := range a.stripes() {
		shards, bad, e := reader.Whole(block)
		if e != nil {
			err = e
			continue
		}
		lost |= a.volume.WriteShards(block, shards, choose(bad))
	}
	lost |= a.mendCopies(rootBlock, a.root, choose)
	if err == nil {
		lost |= a.mendCopies(filledBlock, record.Filled{}, choose)
	}
	return lost, err
}

// mendCopies writes a record anew that stands whole on each drive.
func (a *Archive) mendCopies(block int, right record.Record, choose choice) (lost set.Set) {
	bad := unlike(a.volume.ReadCopies(block), right)
	return a.volume.WriteCopies(block, right, choose(bad))
}
