package archive

import (
	"math"
	"testing"

	"stripes/api"
	"stripes/catalog"
	"stripes/number"
	"stripes/record"
	"stripes/set"
	"stripes/volume"
)

var params = api.Params{Data: 2, Local: 1, Global: 1}

// opensNot holds that what a root and stripes lead to is no archive, though each block is a record.
func opensNot(t *testing.T, what string, root record.Root, stripes map[int][]byte) {
	t.Helper()
	a := api.NewArray(params.Shards(), 20)
	v := volume.New(a, params, 0)
	for drive := range params.Shards() {
		v.Write(drive, rootBlock, root)
	}
	for block, data := range stripes {
		if err := v.WriteStripe(block, data); err != nil {
			t.Fatal(err)
		}
	}
	if s, err := Open(a, params, api.Options{}); s != nil || err != error(api.ErrLost) {
		t.Errorf("%s: %v, %v, want ErrLost alone", what, s, err)
	}
}

// page makes a page.
func page(next int, packed []byte) []byte {
	return append(number.Append(nil, uint64(next), record.NumberSize), packed...)
}

// lead is a root that leads to a catalog.
func lead(first, length int) record.Root {
	return record.Root{Params: params, Turn: 1, First: first, Length: length}
}

func TestOddRoots(t *testing.T) {
	for _, first := range []int{0, 1, 19, 20, math.MaxInt32} {
		for _, length := range []int{1, 84, 85, math.MaxInt32, math.MaxUint32} {
			opensNot(t, "a root that leads nowhere", lead(first, length), nil)
		}
	}
	opensNot(t, "pages in a ring", lead(2, 84*15), map[int][]byte{2: page(3, nil), 3: page(2, nil)})
	opensNot(t, "pages in a ring, and more than there are blocks", lead(2, 84*25), map[int][]byte{2: page(2, nil)})
}

func TestALongRingIsNotGoneRound(t *testing.T) {
	a := api.NewArray(params.Shards(), 20)
	v := volume.New(a, params, 0)
	v.WriteCopies(rootBlock, lead(2, math.MaxUint32), v.All())
	if err := v.WriteStripe(2, page(2, nil)); err != nil {
		t.Fatal(err)
	}
	if s, err := Open(a, params, api.Options{}); s != nil || err != error(api.ErrLost) {
		t.Errorf("pages in a ring: %v, %v, want ErrLost alone", s, err)
	}
	for d, n := range a.Reads() {
		if n > a.Blocks() {
			t.Errorf("drive %d of %d blocks is read %d times", d, a.Blocks(), n)
		}
	}
}

func TestTheLastRootLeads(t *testing.T) {
	for drive := range params.Shards() {
		array, was := kept(t)
		c := array.Copy()
		a, err := Open(c, params, api.Options{})
		if err != nil {
			t.Fatal(err)
		}
		if err := a.Delete("a"); err != nil {
			t.Fatal(err)
		}
		a.volume.WriteCopies(rootBlock, was.root, a.volume.All()&^set.Set(0).With(drive))
		a, err = Open(c, params, api.Options{})
		if err != nil || a.root.Turn != was.root.Turn+1 || len(a.objects) != 1 {
			t.Fatalf("the last root is on drive %d alone: turn %d, %d objects, %v", drive, a.root.Turn, len(a.objects), err)
		}
		if wrong := unlike(a.volume.ReadCopies(rootBlock), a.root); wrong != 0 {
			t.Errorf("drives %b lack the last root", wrong)
		}
	}
}

func TestOddCatalogs(t *testing.T) {
	for _, stripes := range [][]int{{0}, {2}, {20}, {math.MaxUint32}, {5, 5}} {
		c := catalog.Catalog{{Name: "a", Size: len(stripes) * 88, Stripes: stripes}}
		packed := c.Pack()
		opensNot(t, "an object of stripes that are not its own", lead(2, len(packed)), map[int][]byte{2: page(0, packed)})
	}
	c := catalog.Catalog{{Name: "a", Stripes: []int{5}}, {Name: "b", Stripes: []int{5}}}
	opensNot(t, "two objects of one stripe", lead(2, c.Length()), map[int][]byte{2: page(0, c.Pack())})
	opensNot(t, "a catalog of noughts", lead(2, 84), map[int][]byte{2: page(0, nil)})
}

func TestWhatIsLeftIsNotTakenForANewArray(t *testing.T) {
	array, _ := kept(t)
	array.Renew(0)
	for drive := 1; drive < params.Shards(); drive++ {
		array.Spoil(drive, rootBlock, -1)
	}
	if a, err := Open(array, params, api.Options{}); a != nil || err != error(api.ErrLost) {
		t.Errorf("without roots: %v, %v, want ErrLost alone", a, err)
	}
}

func TestFullIsTold(t *testing.T) {
	// An archive fills drives so far only, that there is room to delete; these drives are fuller.
	var stripes []int
	for block := 2; block < 19; block++ {
		stripes = append(stripes, block)
	}
	c := catalog.Catalog{{Name: "a", Size: len(stripes) * 88, Stripes: stripes}, {Name: "b", Stripes: []int{1}}}
	a := &Archive{volume: volume.New(api.NewArray(params.Shards(), 20), params, 0), root: lead(0, c.Length()), objects: c}
	if err := a.Delete("b"); err != error(api.ErrFull) {
		t.Errorf("Delete without room for a page: %v", err)
	}
	if err := a.Put("c", nil); err != error(api.ErrFull) {
		t.Errorf("Put without room: %v", err)
	}
	if l, err := a.List(); err != nil || len(l) != 2 {
		t.Errorf("List: %v, %v", l, err)
	}
}
