package stripes_test

import (
	"bytes"
	"encoding/hex"
	"fmt"
	"slices"
	"testing"

	"stripes/api"
	"stripes/stripes"
)

// packs holds that a program is written as such bytes, and read again from them.
func packs(t *testing.T, g api.Program, want []byte) {
	t.Helper()
	b, err := stripes.Pack(g)
	if err != nil || !bytes.Equal(b, want) {
		t.Errorf("Pack(%v) = %x, %v, want %x", g, b, err, want)
	}
	back, err := stripes.Unpack(want)
	if err != nil || back.Regs != g.Regs || !slices.Equal(back.Steps, g.Steps) {
		t.Errorf("Unpack(%x) = %v, %v, want %v", want, back, err, g)
	}
}

// packsNot holds that Pack answers an error alone.
func packsNot(t *testing.T, what string, g api.Program) {
	t.Helper()
	if b, err := stripes.Pack(g); b != nil || err != error(api.ErrProgram) {
		t.Errorf("Pack of %s: %x, %v, want %v alone", what, b, err, api.ErrProgram)
	}
}

// unpacksNot holds that Unpack answers an error alone.
func unpacksNot(t *testing.T, what string, b []byte) {
	t.Helper()
	if g, err := stripes.Unpack(b); g.Regs != 0 || g.Steps != nil || err != error(api.ErrProgram) {
		t.Errorf("Unpack of %s: %v, %v, want %v alone", what, g, err, api.ErrProgram)
	}
}

// unhex reads hexadecimal numbers.
func unhex(t *testing.T, s string) []byte {
	t.Helper()
	b, err := hex.DecodeString(s)
	if err != nil {
		t.Fatal(err)
	}
	return b
}

func TestP10Example(t *testing.T) {
	packs(t, of(3, load(2, 15), add(0, 2, 255), put(255, 0)), unhex(t, "030003"+"00020f00"+"010002ff"+"02ff0000"))
}

func TestP10PackEdges(t *testing.T) {
	packs(t, of(0), []byte{0, 0, 0})
	packs(t, of(32), []byte{32, 0, 0})
	packs(t, of(0, load(0, 0)), []byte{0, 0, 1, 0, 0, 0, 0})
	packs(t, of(1, load(255, 255)), []byte{1, 0, 1, 0, 255, 255, 0})
	packs(t, of(1, add(255, 0, 0)), []byte{1, 0, 1, 1, 255, 0, 0})
	packs(t, of(1, add(7, 7, 255)), []byte{1, 0, 1, 1, 7, 7, 255})
	packs(t, of(1, put(0, 255)), []byte{1, 0, 1, 2, 0, 255, 0})
	for _, n := range []int{255, 256, 257, 1999, 2000} {
		want := append([]byte{9, byte(n / 256), byte(n % 256)}, bytes.Repeat([]byte{1, 2, 3, 4}, n)...)
		packs(t, of(9, slices.Repeat([]api.Step{add(2, 3, 4)}, n)...), want)
	}
}

func TestP10PackWrongPrograms(t *testing.T) {
	for _, n := range ends {
		if !inside(n, 33) {
			packsNot(t, fmt.Sprint(n, " registers"), of(n))
		}
		if inside(n, 256) {
			continue
		}
		for _, s := range []api.Step{load(n, 0), load(0, n), add(n, 0, 1), add(0, n, 1), put(n, 0), put(0, n), load(n, n)} {
			packsNot(t, fmt.Sprint(s), of(1, s))
			packsNot(t, fmt.Sprint(s, " as the last one"), of(1, put(0, 0), put(0, 0), s))
		}
	}
	for _, n := range []int{2001, 65536, 65537} {
		packsNot(t, fmt.Sprint(n, " steps"), of(1, slices.Repeat([]api.Step{put(0, 0)}, n)...))
	}
	for kind := range 256 {
		for c := range 256 {
			s := api.Step{Kind: api.Kind(kind), A: 1, B: 2, C: byte(c)}
			if kind == 1 || kind <= 2 && c == 0 {
				packs(t, of(1, s), []byte{1, 0, 1, byte(kind), 1, 2, byte(c)})
				continue
			}
			packsNot(t, fmt.Sprint(s), of(1, s))
			unpacksNot(t, fmt.Sprint(s), []byte{1, 0, 1, byte(kind), 1, 2, byte(c)})
			packsNot(t, fmt.Sprint(s, " ahead of a right one"), of(1, s, put(0, 0)))
			unpacksNot(t, fmt.Sprint(s, " ahead of a right one"), []byte{1, 0, 2, byte(kind), 1, 2, byte(c), 2, 0, 0, 0})
		}
	}
}

func TestP10UnpackRegs(t *testing.T) {
	for regs := range 256 {
		for _, rest := range [][]byte{{0, 0}, {0, 1, 2, 0, 0, 0}} {
			b := append([]byte{byte(regs)}, rest...)
			if regs > 32 {
				unpacksNot(t, fmt.Sprintf("%x", b), b)
			} else if g, err := stripes.Unpack(b); err != nil || g.Regs != regs || len(g.Steps) != len(rest)/4 {
				t.Errorf("Unpack(%x) = %v, %v", b, g, err)
			}
		}
	}
}

func TestP10UnpackLengths(t *testing.T) {
	for _, n := range []int{0, 1, 2, 255, 256, 2000} {
		b := append([]byte{3, byte(n >> 8), byte(n)}, make([]byte, 4*n)...)
		for length := range b {
			if length < 20 || length > len(b)-20 {
				unpacksNot(t, fmt.Sprintf("%d of %d bytes", length, len(b)), b[:length:length])
			}
		}
		for more := 1; more < 10; more++ {
			unpacksNot(t, fmt.Sprintf("%d bytes too many", more), append(bytes.Clone(b), make([]byte, more)...))
		}
	}
	unpacksNot(t, "nil", nil)
	for _, n := range []int{2001, 65535} {
		unpacksNot(t, fmt.Sprint(n, " steps"), append([]byte{3, byte(n >> 8), byte(n)}, make([]byte, 4*n)...))
		unpacksNot(t, fmt.Sprint(n, " steps that are not there"), []byte{3, byte(n >> 8), byte(n)})
	}
	unpacksNot(t, "2000000 bytes", make([]byte, 2000000))
}

func TestP10DrawnPrograms(t *testing.T) {
	r := draw()
	for range 300 {
		g := drawProgram(r, 1+r.IntN(32), 256, r.IntN(40))
		b, err := stripes.Pack(g)
		if err != nil {
			t.Fatalf("Pack(%v): %v", g, err)
		}
		packs(t, g, b)
	}
}

func TestP10UnpackIsJustWhatPackWrote(t *testing.T) {
	r := draw()
	seen := [2]int{}
	for range 20000 {
		b := make([]byte, 3+r.IntN(14))
		for i := range b {
			b[i] = byte(r.IntN(3))
		}
		b[1], b[2] = byte(r.IntN(20)/19), byte(r.IntN(5))
		g, err := stripes.Unpack(b)
		if err != nil {
			seen[0]++
			unpacksNot(t, fmt.Sprintf("%x", b), b)
			continue
		}
		seen[1]++
		packs(t, g, b)
	}
	if min(seen[0], seen[1]) < 100 {
		t.Errorf("%d were refused, and %d read", seen[0], seen[1])
	}
}
