package volume

import (
	"bytes"
	"errors"
	"testing"

	"stripes/api"
	"stripes/code"
	"stripes/record"
	"stripes/set"
)

var params = api.Params{Data: 4, Local: 2, Global: 2}

// written is a volume with one stripe, of all bytes that it has room for.
func written(t *testing.T) (*api.Array, *Volume, []byte) {
	t.Helper()
	a := api.NewArray(params.Shards(), 8)
	v := New(a, params, 1)
	data := make([]byte, v.StripeSize())
	for i := range data {
		data[i] = byte(i*i + 1)
	}
	if err := v.WriteStripe(5, data); err != nil {
		t.Fatal(err)
	}
	return a, v, data
}

func TestStripesComeBack(t *testing.T) {
	_, v, data := written(t)
	for size := range len(data) + 1 {
		if b, err := v.ReadStripe(5, size); err != nil || !bytes.Equal(b, data[:size]) {
			t.Fatalf("%d bytes: %x, %v", size, b, err)
		}
	}
	for size := range len(data) {
		if err := v.WriteStripe(6, data[:size]); err != nil {
			t.Fatal(err)
		}
		want := append(bytes.Clone(data[:size]), make([]byte, len(data)-size)...)
		if b, err := v.ReadStripe(6, len(data)); err != nil || !bytes.Equal(b, want) {
			t.Fatalf("%d bytes were written: %x, %v", size, b, err)
		}
	}
}

// faults are the ways in which a shard is gone.
func faults() []func(a *api.Array, drive int) {
	return []func(a *api.Array, drive int){
		func(a *api.Array, drive int) { a.Lose(drive) },
		func(a *api.Array, drive int) { a.Renew(drive) },
		func(a *api.Array, drive int) { a.Spoil(drive, 5, -1) },
		func(a *api.Array, drive int) { a.Spoil(drive, 5, 40*drive) },
		func(a *api.Array, drive int) { a.Write(drive, 5, record.Block(record.Root{Turn: 1})) },
	}
}

func TestStripesWithFaults(t *testing.T) {
	whole, _, data := written(t)
	for lost := range set.First(params.Shards()) + 1 {
		for shift := range faults() {
			a := whole.Copy()
			for d := range lost.Members() {
				faults()[(d+shift)%len(faults())](a, d)
			}
			b, err := New(a, params, 0).ReadStripe(5, len(data))
			switch {
			case code.Decodable(params, uint64(lost)):
				if err != nil || !bytes.Equal(b, data) {
					t.Fatalf("lost %b: %x, %v", lost, b, err)
				}
			case err == nil && bytes.Equal(b, data):
				// all data shards can be read
			case b != nil || err != error(api.ErrLost):
				t.Fatalf("lost %b: %x, %v, want ErrLost alone", lost, b, err)
			}
			for d, n := range a.Reads() {
				if n > 1 {
					t.Fatalf("lost %b: drive %d is read %d times", lost, d, n)
				}
			}
		}
	}
}

func TestStripesOnLostDrives(t *testing.T) {
	_, _, data := written(t)
	for lost := range set.First(params.Shards()) + 1 {
		a := api.NewArray(params.Shards(), 8)
		for d := range lost.Members() {
			a.Lose(d)
		}
		v := New(a, params, 0)
		err := v.WriteStripe(5, data)
		if !code.Decodable(params, uint64(lost)) {
			if err != error(api.ErrLost) {
				t.Fatalf("lost %b: %v, want ErrLost", lost, err)
			}
			continue
		}
		if b, again := v.ReadStripe(5, len(data)); err != nil || again != nil || !bytes.Equal(b, data) {
			t.Fatalf("lost %b: %v, %x, %v", lost, err, b, again)
		}
	}
}

func TestABlockThatIsNoRecord(t *testing.T) {
	a, v, _ := written(t)
	a.Spoil(2, 5, 77)
	r, err := v.Read(2, 5)
	var at *api.BlockError
	if r != nil || !errors.As(err, &at) || *at != (api.BlockError{Drive: 2, Block: 5, Err: api.ErrBlock}) {
		t.Errorf("a block with a bit turned: %v, %v", r, err)
	}
}

func TestPowered(t *testing.T) {
	a, v, data := written(t)
	a.Cut(3)
	if err := Powered(func() error { return v.WriteStripe(6, data) }); err != error(api.ErrPower) {
		t.Errorf("the power is cut at a write: %v", err)
	}
	read := func() error {
		_, err := v.ReadStripe(5, len(data))
		return err
	}
	if err := Powered(read); err != error(api.ErrPower) {
		t.Errorf("a read without power: %v", err)
	}
	a.Restore()
	if err := Powered(read); err != nil {
		t.Errorf("a read with power: %v", err)
	}
	if err := Powered(func() error { return api.ErrFull }); err != error(api.ErrFull) {
		t.Errorf("another error: %v", err)
	}
	defer func() {
		if recover() != "another panic" {
			t.Error("another panic is kept back")
		}
	}()
	Powered(func() error { panic("another panic") })
}
