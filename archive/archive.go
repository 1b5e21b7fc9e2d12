// Package archive keeps objects on a volume.
//
// An object stands in stripes of its own. The catalog of all objects stands in further stripes, its pages, each of which begins with the number of the next one. Where the first page is, the root tells, which stands in the first block of every drive. The second block tells that the drive is filled.
// What is changed is written where nothing stands: first the stripes of an object, then the pages of a new catalog. Then the root is written anew, drive by drive. Before its first block is written all is as it was; behind that, Open finds the new root, and brings it to the drives that lack it.
package archive

import (
	"errors"
	"strings"

	"stripes/api"
	"stripes/catalog"
	"stripes/record"
	"stripes/volume"
)

const (
	rootBlock   = iota // the block in which the root stands
	filledBlock        // the one by which a drive is known that has all that was written
	firstStripe        // the first one that stripes have
)

// Archive has objects.
type Archive struct {
	volume  *volume.Volume
	root    record.Root // the last one
	pages   []int       // the stripes of the catalog
	objects catalog.Catalog
	off     bool // whether the power was cut
}

// powered does what is to be done for a call. When the power was cut once, it is not known what stands on the drives, so that the archive is at its end.
func (a *Archive) powered(do func() error) error {
	if a.off {
		return api.ErrPower
	}
	err := volume.Powered(do)
	a.off = errors.Is(err, api.ErrPower)
	return err
}

// Put adds an object.
func (a *Archive) Put(name string, data []byte) error {
	return a.powered(func() error { return a.put(name, data) })
}

func (a *Archive) put(name string, data []byte) error {
	place, there := a.objects.Find(name)
	switch {
	case !catalog.Named(name):
		return api.ErrName
	case len(data) > api.MaxObject:
		return api.ErrSize
	case there:
		return api.ErrExists
	}
	count := catalog.StripesOf(len(data), a.volume.StripeSize())
	pages := a.pagesOf(a.root.Length + catalog.Packed(count))
	if !a.roomFor(count, pages) {
		return api.ErrFull
	}
	free, ok := a.take(count + pages)
	if !ok {
		return api.ErrFull
	}
	o := catalog.Object{Name: strings.Clone(name), Size: len(data), Stripes: free[:count:count]}
	if err := a.writeObject(o, data); err != nil {
		return err
	}
	return a.commit(a.objects.With(place, o), free[count:])
}

// writeObject writes the stripes of an object.
func (a *Archive) writeObject(o catalog.Object, data []byte) error {
	size := a.volume.StripeSize()
	for i, block := range o.Stripes {
		if err := a.volume.WriteStripe(block, data[i*size:min((i+1)*size, o.Size)]); err != nil {
			return err
		}
	}
	return nil
}

// Delete takes an object away.
func (a *Archive) Delete(name string) error {
	return a.powered(func() error { return a.remove(name) })
}

func (a *Archive) remove(name string) error {
	place, there := a.objects.Find(name)
	switch {
	case !catalog.Named(name):
		return api.ErrName
	case !there:
		return api.ErrMissing
	}
	objects := a.objects.Without(place)
	pages, ok := a.take(a.pagesOf(objects.Length()))
	if !ok {
		return api.ErrFull
	}
	return a.commit(objects, pages)
}

// Get tells the bytes of an object.
func (a *Archive) Get(name string) (data []byte, err error) {
	err = a.powered(func() error {
		b, err := a.get(name)
		data = b
		return err
	})
	return data, err
}

func (a *Archive) get(name string) ([]byte, error) {
	place, there := a.objects.Find(name)
	switch {
	case !catalog.Named(name):
		return nil, api.ErrName
	case !there:
		return nil, api.ErrMissing
	}
	o := a.objects[place]
	data := make([]byte, 0, o.Size)
	reader := a.volume.Reader()
	for _, block := range o.Stripes {
		b, err := reader.Data(block, min(o.Size-len(data), a.volume.StripeSize()))
		if err != nil {
			return nil, err
		}
		data = append(data, b...)
	}
	return data, nil
}

// List tells all objects, by the bytes of their names.
func (a *Archive) List() (entries []api.Entry, err error) {
	err = a.powered(func() error {
		for _, o := range a.objects {
			entries = append(entries, api.Entry{Name: o.Name, Size: o.Size})
		}
		return nil
	})
	return entries, err
}
