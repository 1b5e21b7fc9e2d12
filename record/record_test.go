package record

import (
	"hash/crc32"
	"math"
	"testing"

	"stripes/api"
)

// some are records of all kinds, at their bounds.
func some() []Record {
	full := Shard{}
	for i := range full.Bytes {
		full.Bytes[i] = byte(255 - i)
	}
	return []Record{
		Blank{}, Filled{}, Shard{}, full,
		Root{},
		Root{Params: api.Params{Data: 12, Local: 4}, Turn: 1, First: 2, Length: 3},
		Root{Params: api.Params{Data: 8, Local: 4, Global: 4}, Turn: math.MaxUint64, First: math.MaxInt32, Length: math.MaxUint32},
	}
}

func TestRecordsComeBack(t *testing.T) {
	for _, r := range some() {
		if got, ok := Of(Block(r)); !ok || got != r {
			t.Errorf("%#v comes back as %#v, %v", r, got, ok)
		}
	}
}

func TestOnlyABlankIsNoughts(t *testing.T) {
	for _, r := range some() {
		if _, blank := r.(Blank); (Block(r) == api.Block{}) != blank {
			t.Errorf("%#v is written as %v", r, Block(r))
		}
	}
}

func TestTurnedBitsAreNoticed(t *testing.T) {
	const bits = api.BlockSize * 8
	turn := func(b *api.Block, i int) { b[i/8] ^= 1 << (i % 8) }
	for _, r := range some() {
		for i := range bits {
			b := Block(r)
			turn(&b, i)
			if got, ok := Of(b); ok {
				t.Fatalf("%#v with bit %d turned is %#v", r, i, got)
			}
			for k := range i {
				turn(&b, k)
				if got, ok := Of(b); ok {
					t.Fatalf("%#v with bits %d and %d turned is %#v", r, i, k, got)
				}
				turn(&b, k)
			}
		}
	}
}

func TestSumIsTheKnownOne(t *testing.T) {
	var b []byte
	for i := range 100 {
		if got, want := sum(b), crc32.ChecksumIEEE(b); got != want {
			t.Fatalf("the sum of %x is %x, want %x", b, got, want)
		}
		b = append(b, byte(i*i*7))
	}
}
