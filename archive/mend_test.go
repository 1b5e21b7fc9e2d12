package archive

import (
	"bytes"
	"testing"

	"stripes/api"
	"stripes/record"
)

// kept makes an archive with two objects.
func kept(t *testing.T) (*api.Array, *Archive) {
	t.Helper()
	array := api.NewArray(params.Shards(), 20)
	a, err := Open(array, params, api.Options{})
	if err != nil {
		t.Fatal(err)
	}
	for _, name := range []string{"a", "b"} {
		if err := a.Put(name, []byte("the bytes of "+name)); err != nil {
			t.Fatal(err)
		}
	}
	return array, a
}

// readable tells whether a block has a record.
func readable(a *Archive, drive, block int) bool {
	_, err := a.volume.Read(drive, block)
	return err == nil
}

func TestMendGoesOn(t *testing.T) {
	calls := map[string]func(a *Archive) error{"Scrub": (*Archive).Scrub, "Replace": func(a *Archive) error { return a.Replace(1) }}
	for what, call := range calls {
		array, a := kept(t)
		lost, other := a.objects[0].Stripes[0], a.objects[1].Stripes[0]
		for drive := range params.Shards() {
			array.Spoil(drive, lost, -1)
		}
		blocks := []int{rootBlock, a.pages[0], other}
		for _, block := range blocks {
			array.Spoil(1, block, 3)
		}
		if err := call(a); err != error(api.ErrLost) {
			t.Errorf("%s: %v, want ErrLost", what, err)
		}
		for _, block := range blocks {
			if !readable(a, 1, block) {
				t.Errorf("%s: block %d is still bad", what, block)
			}
		}
		if b, err := a.Get("b"); err != nil || !bytes.Equal(b, []byte("the bytes of b")) {
			t.Errorf("%s: the other object: %q, %v", what, b, err)
		}
	}
}

// filled tells whether a drive is known as filled.
func filled(a *Archive, drive int) bool {
	return a.volume.ReadCopies(filledBlock)[drive] == record.Record(record.Filled{})
}

func TestADriveIsFilledBehindAllStripes(t *testing.T) {
	whole, was := kept(t)
	blocks := 2 + len(was.pages) + 2
	for writes := range blocks + 1 {
		array := whole.Copy()
		a, err := Open(array, params, api.Options{})
		if err != nil {
			t.Fatal(err)
		}
		array.Renew(2)
		array.Cut(writes)
		err = a.Replace(2)
		array.Restore()
		if (err == nil) != (writes == blocks) || filled(a, 2) != (err == nil) {
			t.Fatalf("cut behind %d writes of %d: %v, filled: %v", writes, blocks, err, filled(a, 2))
		}
		for block := range a.stripes() {
			if _, err := array.Read(2, block); filled(a, 2) && err != nil {
				t.Errorf("a filled drive lacks block %d: %v", block, err)
			}
		}
	}
}

func TestARenewedDriveIsNotFilledByPut(t *testing.T) {
	array, a := kept(t)
	array.Renew(2)
	if err := a.Put("c", nil); err != nil {
		t.Fatal(err)
	}
	a, err := Open(array, params, api.Options{})
	if err != nil || filled(a, 2) || a.volume.Hollow != 4 {
		t.Fatalf("opened with a renewed drive: hollow %b, %v", a.volume.Hollow, err)
	}
	if err := a.Scrub(); err != nil || !filled(a, 2) || a.volume.Hollow != 0 {
		t.Fatalf("scrubbed: hollow %b, %v", a.volume.Hollow, err)
	}
	array.Renew(1)
	if _, err := a.Get("a"); err != nil {
		t.Fatal(err)
	}
	if err := a.Replace(2); err != nil || a.volume.Hollow != 2 {
		t.Fatalf("another drive replaced: hollow %b, %v", a.volume.Hollow, err)
	}
	if err := a.Replace(1); err != nil || a.volume.Hollow != 0 {
		t.Fatalf("replaced: hollow %b, %v", a.volume.Hollow, err)
	}
}

func TestTooMuchLostLeavesDrivesUnfilled(t *testing.T) {
	array, a := kept(t)
	for drive := range params.Shards() {
		array.Spoil(drive, a.objects[0].Stripes[0], -1)
	}
	array.Renew(2)
	for what, err := range map[string]error{"Scrub": a.Scrub(), "Replace": a.Replace(2)} {
		if err != error(api.ErrLost) || filled(a, 2) {
			t.Errorf("%s: %v, filled: %v", what, err, filled(a, 2))
		}
	}
}
