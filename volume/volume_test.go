package volume

import (
	"bytes"
	"errors"
	"slices"
	"testing"

	"stripes/api"
	"stripes/code"
	"stripes/record"
	"stripes/set"
)

var params = api.Params{Data: 4, Local: 2, Global: 2}

// written is a volume with one stripe, of all bytes that it has room for.
func written(t *testing.T) (*api.Array, *Volume, []byte) {
	t.Helper()
	a := api.NewArray(params.Shards(), 8)
	v := New(a, params, 1)
	data := make([]byte, v.StripeSize())
	for i := range data {
		data[i] = byte(i*i + 1)
	}
	if err := v.WriteStripe(5, data); err != nil {
		t.Fatal(err)
	}
	return a, v, data
}

func TestStripesComeBack(t *testing.T) {
	_, v, data := written(t)
	for size := range len(data) + 1 {
		if b, err := v.Reader().Data(5, size); err != nil || !bytes.Equal(b, data[:size]) {
			t.Fatalf("%d bytes: %x, %v", size, b, err)
		}
	}
	for size := range len(data) {
		if err := v.WriteStripe(6, data[:size]); err != nil {
			t.Fatal(err)
		}
		want := append(bytes.Clone(data[:size]), make([]byte, len(data)-size)...)
		if b, err := v.Reader().Data(6, len(data)); err != nil || !bytes.Equal(b, want) {
			t.Fatalf("%d bytes were written: %x, %v", size, b, err)
		}
	}
}

// faults are the ways in which a shard is gone.
func faults() []func(a *api.Array, drive int) {
	return []func(a *api.Array, drive int){
		func(a *api.Array, drive int) { a.Lose(drive) },
		func(a *api.Array, drive int) { a.Renew(drive) },
		func(a *api.Array, drive int) { a.Spoil(drive, 5, -1) },
		func(a *api.Array, drive int) { a.Spoil(drive, 5, 40*drive) },
		func(a *api.Array, drive int) { a.Write(drive, 5, record.Block(record.Root{Turn: 1})) },
	}
}

func TestStripesWithFaults(t *testing.T) {
	whole, _, data := written(t)
	for lost := range set.First(params.Shards()) + 1 {
		for shift := range faults() {
			a := whole.Copy()
			for d := range lost.Members() {
				faults()[(d+shift)%len(faults())](a, d)
			}
			b, err := New(a, params, 0).Reader().Data(5, len(data))
			switch {
			case code.Decodable(params, uint64(lost)):
				if err != nil || !bytes.Equal(b, data) {
					t.Fatalf("lost %b: %x, %v", lost, b, err)
				}
			case err == nil && bytes.Equal(b, data):
				// all data shards can be read
			case b != nil || err != error(api.ErrLost):
				t.Fatalf("lost %b: %x, %v, want ErrLost alone", lost, b, err)
			}
			for d, n := range a.Reads() {
				if n > 1 {
					t.Fatalf("lost %b: drive %d is read %d times", lost, d, n)
				}
			}
		}
	}
}

func TestWholeStripesWithFaults(t *testing.T) {
	whole, v, _ := written(t)
	want, gone, err := v.Reader().Whole(5)
	if err != nil || gone != 0 {
		t.Fatalf("a sound stripe: %b is gone, %v", gone, err)
	}
	for lost := range set.First(params.Shards()) + 1 {
		for shift := range faults() {
			a := whole.Copy()
			for d := range lost.Members() {
				faults()[(d+shift)%len(faults())](a, d)
			}
			shards, gone, err := New(a, params, 0).Reader().Whole(5)
			switch {
			case !code.Decodable(params, uint64(lost)):
				if shards != nil || gone != 0 || err != error(api.ErrLost) {
					t.Fatalf("lost %b: %x, %b, %v, want ErrLost alone", lost, shards, gone, err)
				}
			case err != nil || gone != lost || !slices.EqualFunc(shards, want, bytes.Equal):
				t.Fatalf("lost %b: %x, %b, %v, want %x", lost, shards, gone, err, want)
			}
		}
	}
}

func TestReadersGoFromStripeToStripe(t *testing.T) {
	a, v, data := written(t)
	other := bytes.Repeat([]byte{77}, len(data))
	if err := v.WriteStripe(6, other); err != nil {
		t.Fatal(err)
	}
	a.Spoil(1, 5, -1)
	a.Spoil(2, 6, -1)
	r := v.Reader()
	for range 3 {
		for block, want := range map[int][]byte{5: data, 6: other} {
			if b, err := r.Data(block, len(want)); err != nil || !bytes.Equal(b, want) {
				t.Fatalf("block %d: %x, %v", block, b, err)
			}
			if shards, gone, err := r.Whole(block); err != nil || gone != 1<<(block-4) || !bytes.Equal(slices.Concat(shards[:4]...), want) {
				t.Fatalf("block %d as a whole: %x, %b, %v", block, shards, gone, err)
			}
		}
	}
}

func TestHollowDrivesAreReadLast(t *testing.T) {
	whole, _, data := written(t)
	for hollow := range set.First(params.Shards()) + 1 {
		a := whole.Copy()
		v := New(a, params, 0)
		v.Hollow = hollow
		if b, err := v.Reader().Data(5, len(data)); err != nil || !bytes.Equal(b, data) {
			t.Fatalf("hollow %b: %x, %v", hollow, b, err)
		}
		for d, n := range a.Reads() {
			if n > 1 || n == 1 && hollow.Has(d) && code.Decodable(params, uint64(hollow)) {
				t.Fatalf("hollow %b: drive %d is read %d times", hollow, d, n)
			}
		}
	}
}

func TestHollowDrivesAreNoticed(t *testing.T) {
	for kind, hollow := range []set.Set{2, 2, 0, 0, 0} {
		a, v, data := written(t)
		faults()[kind](a, 1)
		if _, err := v.Reader().Data(5, len(data)); err != nil || v.Hollow != hollow {
			t.Errorf("fault %d: hollow %b, %v, want %b", kind, v.Hollow, err, hollow)
		}
	}
}

func TestStripesOnLostDrives(t *testing.T) {
	_, _, data := written(t)
	for lost := range set.First(params.Shards()) + 1 {
		a := api.NewArray(params.Shards(), 8)
		for d := range lost.Members() {
			a.Lose(d)
		}
		v := New(a, params, 0)
		err := v.WriteStripe(5, data)
		if !code.Decodable(params, uint64(lost)) {
			if err != error(api.ErrLost) {
				t.Fatalf("lost %b: %v, want ErrLost", lost, err)
			}
			continue
		}
		if b, again := v.Reader().Data(5, len(data)); err != nil || again != nil || !bytes.Equal(b, data) {
			t.Fatalf("lost %b: %v, %x, %v", lost, err, b, again)
		}
	}
}

func TestABlockThatIsNoRecord(t *testing.T) {
	a, v, _ := written(t)
	a.Spoil(2, 5, 77)
	r, err := v.Read(2, 5)
	var at *api.BlockError
	if r != nil || !errors.As(err, &at) || *at != (api.BlockError{Drive: 2, Block: 5, Err: api.ErrBlock}) {
		t.Errorf("a block with a bit turned: %v, %v", r, err)
	}
}

func TestPowered(t *testing.T) {
	a, v, data := written(t)
	a.Cut(3)
	if err := Powered(func() error { return v.WriteStripe(6, data) }); err != error(api.ErrPower) {
		t.Errorf("the power is cut at a write: %v", err)
	}
	read := func() error {
		_, err := v.Reader().Data(5, len(data))
		return err
	}
	if err := Powered(read); err != error(api.ErrPower) {
		t.Errorf("a read without power: %v", err)
	}
	a.Restore()
	if err := Powered(read); err != nil {
		t.Errorf("a read with power: %v", err)
	}
	if err := Powered(func() error { return api.ErrFull }); err != error(api.ErrFull) {
		t.Errorf("another error: %v", err)
	}
	defer func() {
		if recover() != "another panic" {
			t.Error("another panic is kept back")
		}
	}()
	Powered(func() error { panic("another panic") })
}
