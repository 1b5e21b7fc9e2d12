// Package catalog has the objects of an archive: what they are called, how great they are, and in which stripes they stand.
package catalog

import (
	"cmp"
	"iter"
	"slices"

	"stripes/api"
)

// Object is one of an archive.
type Object struct {
	Name    string
	Size    int
	Stripes []int
}

// Catalog has objects by the bytes of their names. It is not changed: another one takes its place.
type Catalog []Object

// Named tells whether a name is one.
func Named(name string) bool { return len(name) >= 1 && len(name) <= api.MaxName }

// Find tells the place of an object, or the one that it would have.
func (c Catalog) Find(name string) (int, bool) {
	return slices.BinarySearchFunc(c, name, func(o Object, name string) int { return cmp.Compare(o.Name, name) })
}

// With makes a catalog with an object more, at a place.
func (c Catalog) With(place int, o Object) Catalog {
	return slices.Insert(slices.Clone(c), place, o)
}

// Without makes a catalog without the object at a place.
func (c Catalog) Without(place int) Catalog {
	return slices.Delete(slices.Clone(c), place, place+1)
}

// Stripes goes through the stripes of all objects.
func (c Catalog) Stripes() iter.Seq[int] {
	return func(yield func(int) bool) {
		for _, o := range c {
			for _, s := range o.Stripes {
				if !yield(s) {
					return
				}
			}
		}
	}
}

// StripesOf tells how many stripes an object of so many bytes has. An empty one has a stripe too, so that there are never more objects than stripes, and the catalog does not outgrow them.
func StripesOf(size, stripeSize int) int { return max(1, Pieces(size, stripeSize)) }

// Pieces tells into how many pieces of a size bytes are cut.
func Pieces(bytes, size int) int { return (bytes + size - 1) / size }
