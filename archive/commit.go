package archive

import (
	"stripes/api"
	"stripes/catalog"
	"stripes/number"
	"stripes/record"
)

// commit lets a catalog take the place of the last one, by pages in which nothing stands.
// The root comes last: all that it leads to stands on the drives when it does. On lost drives it is lost, but one root is enough to find all.
func (a *Archive) commit(objects catalog.Catalog, pages []int) error {
	packed := objects.Pack()
	if err := a.writePages(packed, pages); err != nil {
		return err
	}
	root := record.Root{Params: a.volume.Params(), Turn: a.root.Turn + 1, First: pages[0], Length: len(packed)}
	a.volume.WriteCopies(rootBlock, root, a.volume.All())
	a.root, a.pages, a.objects = root, pages, objects
	return nil
}

// writePages writes the bytes of a catalog.
func (a *Archive) writePages(packed []byte, pages []int) error {
	size := a.pageSize()
	for i, block := range pages {
		next := 0
		if i+1 < len(pages) {
			next = pages[i+1]
		}
		page := number.Append(nil, uint64(next), record.NumberSize)
		page = append(page, packed[i*size:min((i+1)*size, len(packed))]...)
		if err := a.volume.WriteStripe(block, page); err != nil {
			return err
		}
	}
	return nil
}

// readPages reads the bytes of the catalog to which a root leads, and tells in which pages they stand.
func (a *Archive) readPages(root record.Root) (packed []byte, pages []int, err error) {
	count := a.pagesOf(root.Length)
	if count > a.volume.Blocks() {
		return nil, nil, api.ErrLost
	}
	next, reader := root.First, a.volume.Reader()
	for range count {
		size := min(root.Length-len(packed), a.pageSize())
		page, err := reader.Data(next, record.NumberSize+size)
		if err != nil {
			return nil, nil, err
		}
		pages = append(pages, next)
		packed = append(packed, page[record.NumberSize:]...)
		next = int(number.Of(page[:record.NumberSize]))
	}
	return packed, pages, nil
}
