package catalog

import (
	"bytes"

	"stripes/api"
	"stripes/number"
	"stripes/record"
)

const (
	lengthSize = 1 // bytes for how many bytes a name has
	sizeSize   = 2 // bytes for how many bytes an object has
	headSize   = lengthSize + api.MaxName + sizeSize
)

// Packed tells how many bytes an object of so many stripes takes in a catalog. That is the same for all names, so that there is room for an object wherever one of as many stripes was.
func Packed(stripes int) int { return headSize + record.NumberSize*stripes }

// Length tells how many bytes Pack makes of a catalog.
func (c Catalog) Length() int {
	n := 0
	for _, o := range c {
		n += Packed(len(o.Stripes))
	}
	return n
}

// Pack writes a catalog.
func (c Catalog) Pack() []byte {
	b := make([]byte, 0, c.Length())
	for _, o := range c {
		var name [api.MaxName]byte
		copy(name[:], o.Name)
		b = number.Append(b, uint64(len(o.Name)), lengthSize)
		b = append(b, name[:]...)
		b = number.Append(b, uint64(o.Size), sizeSize)
		for _, s := range o.Stripes {
			b = number.Append(b, uint64(s), record.NumberSize)
		}
	}
	return b
}

// Unpack reads a catalog, of an archive whose stripes have so many bytes. It answers false, if b is not what Pack could have written.
func Unpack(b []byte, stripeSize int) (Catalog, bool) {
	var c Catalog
	for rest := b; len(rest) > 0; {
		o, behind, ok := unpackObject(rest, stripeSize)
		if !ok || len(c) > 0 && o.Name <= c[len(c)-1].Name {
			return nil, false
		}
		c, rest = append(c, o), behind
	}
	if !bytes.Equal(c.Pack(), b) {
		return nil, false
	}
	return c, true
}

// unpackObject reads the object that stands first, and tells what stands behind it.
func unpackObject(b []byte, stripeSize int) (o Object, behind []byte, ok bool) {
	if len(b) < headSize {
		return Object{}, nil, false
	}
	length := int(b[0])
	size := int(number.Of(b[headSize-sizeSize : headSize]))
	stripes := StripesOf(size, stripeSize)
	if length < 1 || length > api.MaxName || size > api.MaxObject || len(b) < Packed(stripes) {
		return Object{}, nil, false
	}
	o = Object{Name: string(b[lengthSize : lengthSize+length]), Size: size}
	for i := range stripes {
		o.Stripes = append(o.Stripes, int(number.Of(b[Packed(i):Packed(i+1)])))
	}
	return o, b[Packed(stripes):], true
}
