package archive

import (
	"stripes/api"
	"stripes/catalog"
	"stripes/code"
	"stripes/record"
	"stripes/set"
	"stripes/volume"
)

// Open opens an archive over an array.
func Open(array *api.Array, p api.Params, o api.Options) (*Archive, error) {
	switch {
	case !code.Right(p), o.Cache < 0, o.Cache > api.MaxCache:
		return nil, api.ErrParams
	case array == nil, array.Drives() != p.Shards(), array.Blocks() < api.MinBlocks:
		return nil, api.ErrArray
	}
	a := &Archive{volume: volume.New(array, p, o.Cache)}
	if err := a.powered(a.load); err != nil {
		return nil, err
	}
	return a, nil
}

// load finds what an earlier archive left, or begins a new one where there was none.
func (a *Archive) load() error {
	p := a.volume.Params()
	found := a.readRoots()
	root, blank := survey(found)
	switch {
	case root.Turn > 0 && root.Params != p:
		return api.ErrParams
	case root.Turn > 0:
		return a.resume(root, found)
	case code.Decodable(p, uint64(^blank)):
		return a.commit(nil, nil)
	}
	return api.ErrLost
}

// readRoots reads the block of the root on each drive: nil, if it cannot be read.
func (a *Archive) readRoots() []record.Record {
	found := make([]record.Record, a.volume.Params().Shards())
	for drive := range found {
		if r, err := a.volume.Read(drive, rootBlock); err == nil {
			found[drive] = r
		}
	}
	return found
}

// survey looks for the last root that was written: one of turn 0, if there is none. It tells too on which drives no root was ever written.
func survey(found []record.Record) (last record.Root, blank set.Set) {
	for drive, r := range found {
		switch x := r.(type) {
		case record.Root:
			if x.Turn > last.Turn {
				last = x
			}
		case record.Blank:
			blank = blank.With(drive)
		}
	}
	return last, blank
}

// resume goes on from the last root.
// Where the power was cut, some drives lack it: they get it before anything else is written, for what the root ahead of it leads to is not kept any more.
func (a *Archive) resume(last record.Root, found []record.Record) error {
	if err := a.loadCatalog(last); err != nil {
		return err
	}
	for drive, r := range found {
		if r != last {
			a.writeRoot(drive, last)
		}
	}
	return nil
}

// loadCatalog reads the catalog to which a root leads.
func (a *Archive) loadCatalog(root record.Root) error {
	packed, pages, err := a.readPages(root)
	if err != nil {
		return err
	}
	objects, ok := catalog.Unpack(packed, a.volume.StripeSize())
	if !ok {
		return api.ErrLost
	}
	a.root, a.pages, a.objects = root, pages, objects
	if _, ok := a.taken(); !ok {
		return api.ErrLost
	}
	return nil
}
