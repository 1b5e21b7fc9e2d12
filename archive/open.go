package archive

import (
	"stripes/api"
	"stripes/catalog"
	"stripes/code"
	"stripes/record"
	"stripes/set"
	"stripes/volume"
)

// Open opens an archive over an array.
func Open(array *api.Array, p api.Params, o api.Options) (*Archive, error) {
	switch {
	case !code.Right(p), o.Cache < 0, o.Cache > api.MaxCache:
		return nil, api.ErrParams
	case array == nil, array.Drives() != p.Shards(), array.Blocks() < api.MinBlocks:
		return nil, api.ErrArray
	}
	a := &Archive{volume: volume.New(array, p, o.Cache)}
	if err := a.powered(a.load); err != nil {
		return nil, err
	}
	return a, nil
}

// load finds what an earlier archive left, or begins a new one where there was none.
func (a *Archive) load() error {
	found := a.volume.ReadCopies(rootBlock)
	last := lastRoot(found)
	switch {
	case last.Turn > 0 && last.Params != a.volume.Params():
		return api.ErrParams
	case last.Turn > 0:
		return a.resume(last, found)
	case code.Decodable(a.volume.Params(), uint64(^blanks(found))):
		return a.begin()
	}
	return api.ErrLost
}

// lastRoot looks for the last root that was written: one of turn 0, if there is none.
func lastRoot(found []record.Record) (last record.Root) {
	for _, r := range found {
		if x, ok := r.(record.Root); ok && x.Turn > last.Turn {
			last = x
		}
	}
	return last
}

// blanks tells on which drives nothing was ever written.
func blanks(found []record.Record) (blank set.Set) {
	for drive, r := range found {
		if _, ok := r.(record.Blank); ok {
			blank = blank.With(drive)
		}
	}
	return blank
}

// unlike tells on which drives another record stands than should.
func unlike(found []record.Record, right record.Record) (wrong set.Set) {
	for drive, r := range found {
		if r != right {
			wrong = wrong.With(drive)
		}
	}
	return wrong
}

// begin makes an archive without objects.
// The root comes last here too: wherever there is one, a drive that is not filled is one that came later.
func (a *Archive) begin() error {
	a.volume.WriteCopies(filledBlock, record.Filled{}, a.volume.All())
	pages, ok := a.take(a.pagesOf(0))
	if !ok {
		return api.ErrFull
	}
	return a.commit(nil, pages)
}

// resume goes on from the last root.
// Where the power was cut, some drives lack it: they get it before anything else is written, for what the root ahead of it leads to is not kept any more.
func (a *Archive) resume(last record.Root, found []record.Record) error {
	a.volume.Hollow = blanks(a.volume.ReadCopies(filledBlock))
	if err := a.loadCatalog(last); err != nil {
		return err
	}
	a.volume.WriteCopies(rootBlock, last, unlike(found, last))
	return nil
}

// loadCatalog reads the catalog to which a root leads.
func (a *Archive) loadCatalog(root record.Root) error {
	packed, pages, err := a.readPages(root)
	if err != nil {
		return err
	}
	objects, ok := catalog.Unpack(packed, a.volume.StripeSize())
	if !ok {
		return api.ErrLost
	}
	a.root, a.pages, a.objects = root, pages, objects
	if _, ok := a.taken(); !ok {
		return api.ErrLost
	}
	return nil
}
