package stripes_test

import (
	"bytes"
	"fmt"
	"maps"
	"math/rand/v2"
	"slices"
	"strings"
	"testing"

	"stripes/api"
	"stripes/stripes"
)

func TestArchiveExamples(t *testing.T) {
	p := api.Params{Data: 4, Local: 2, Global: 2}
	a := api.NewArray(8, 40)
	s := open(t, a, p, 1)
	data := drawBytes(draw(), 100)
	answers(t, "Put of a", s.Put("a", data), api.OK)
	answers(t, "Put of a again", s.Put("a", []byte{1}), api.ErrExists)
	answers(t, "Put without a name", s.Put("", nil), api.ErrName)
	answers(t, "Put of 1501 bytes", s.Put("b", make([]byte, 1501)), api.ErrSize)
	holds(t, "behind the Puts", s, objects{"a": data})
	_, err := s.Get("c")
	answers(t, "Get of c", err, api.ErrMissing)
	for d := range 8 {
		c := a.Copy()
		s := open(t, c, p, 1)
		c.Lose(d)
		c.Reads()
		b, err := s.Get("a")
		if n := total(c.Reads()); err != nil || !bytes.Equal(b, data) || n > 4 {
			t.Errorf("drive %d is lost: Get reads %d blocks and answers %x, %v", d, n, b, err)
		}
	}
	answers(t, "Delete", s.Delete("a"), api.OK)
	answers(t, "Delete again", s.Delete("a"), api.ErrMissing)
}

// gotNot holds that Get answers an error, and nothing beside it.
func gotNot(t *testing.T, s *stripes.Archive, name string, want api.Errno) {
	t.Helper()
	if b, err := s.Get(name); b != nil || err != error(want) {
		t.Fatalf("Get(%q): %x, %v, want %v alone", name, b, err, want)
	}
}

func TestP12P13ErrorsInTheirOrder(t *testing.T) {
	for _, p := range few {
		a := api.NewArray(p.Shards(), 60)
		s := open(t, a, p, 0)
		l := objects{"a": {1, 2, 3}}
		answers(t, "Put", s.Put("a", l["a"]), api.OK)
		was := written(t, a)
		for _, name := range []string{"", "seventeen bytes .", strings.Repeat("a", 1<<20)} {
			for _, size := range []int{0, 1500, 1501} {
				answers(t, "Put of a name that is none", s.Put(name, make([]byte, size)), api.ErrName)
			}
			answers(t, "Delete of a name that is none", s.Delete(name), api.ErrName)
			gotNot(t, s, name, api.ErrName)
		}
		for _, name := range []string{"a", "b"} {
			answers(t, "Put of too many bytes", s.Put(name, make([]byte, 1501)), api.ErrSize)
			answers(t, "Put of far too many bytes", s.Put(name, make([]byte, 1<<20)), api.ErrSize)
		}
		for _, size := range []int{0, 3, 1500} {
			answers(t, "Put of an object that is there", s.Put("a", make([]byte, size)), api.ErrExists)
		}
		for _, name := range []string{"b", "A", "aa", "a\x00", "\x00a", "sixteen bytes .."} {
			answers(t, "Delete of none", s.Delete(name), api.ErrMissing)
			gotNot(t, s, name, api.ErrMissing)
		}
		if !slices.Equal(written(t, a), was) {
			t.Fatalf("%v: calls that answered errors changed something", p)
		}
		holds(t, "behind the errors", s, l)
		holds(t, "behind the errors, opened anew", open(t, a, p, 0), l)
	}
}

func TestP12ExistsComesAheadOfFull(t *testing.T) {
	p := api.Params{Data: 1, Local: 1}
	s := open(t, api.NewArray(2, 8), p, 0)
	for i := 0; s.Put(fmt.Sprint(i), nil) == nil; i++ {
	}
	answers(t, "Put of an object that is there, on full drives", s.Put("0", make([]byte, 1500)), api.ErrExists)
	answers(t, "Put of 1501 bytes, on full drives", s.Put("new", make([]byte, 1501)), api.ErrSize)
	answers(t, "Put without a name, on full drives", s.Put("", make([]byte, 1501)), api.ErrName)
	answers(t, "Delete of none, on full drives", s.Delete("new"), api.ErrMissing)
	answers(t, "Put of 1500 bytes, on full drives", s.Put("new", make([]byte, 1500)), api.ErrFull)
}

func TestP12P13NamesOfAnyBytes(t *testing.T) {
	for _, p := range few {
		a := api.NewArray(p.Shards(), 800)
		s, l := open(t, a, p, 0), objects{}
		for _, name := range []string{"\x00", "\x00\x00", "a", "a\x00", "a\x00\x00", "\xff", "\xff\x00", strings.Repeat("\x00", 16), strings.Repeat("\xff", 16), strings.Repeat("\xff", 15), "ä", "\x80", "Z", "zz", " ", "sixteen bytes .."} {
			l[name] = []byte("the bytes of " + name)
			answers(t, "Put", s.Put(name, l[name]), api.OK)
		}
		holds(t, "names of any bytes", s, l)
		holds(t, "names of any bytes, opened anew", open(t, a, p, 0), l)
		for _, name := range []string{"\x00", "a\x00", strings.Repeat("\xff", 15)} {
			answers(t, "Delete", s.Delete(name), api.OK)
			delete(l, name)
		}
		holds(t, "some deleted", s, l)
		holds(t, "some deleted, opened anew", open(t, a, p, 0), l)
	}
}

// walk does drawn calls, and holds each against a plain list.
type walk struct {
	*rand.Rand
	p     api.Params
	array *api.Array
	s     *stripes.Archive
	l     objects
	full  int // how often ErrFull was answered
}

func (w *walk) name() string { return fmt.Sprintf("%.*d", 1+w.IntN(2)*15, w.IntN(40)) }

func (w *walk) size() int {
	if w.IntN(2) == 0 {
		l := edges(w.p)
		return l[w.IntN(len(l))]
	}
	return w.IntN(300)
}

// changed takes an error of a Put or Delete, of objects that would be as told together with this call's.
func (w *walk) changed(t *testing.T, err error, among, behind objects) {
	t.Helper()
	if api.Tell(err) == api.ErrFull {
		w.full++
		if promised(w.p, w.array.Blocks(), among) {
			t.Fatalf("%v: ErrFull at %d objects on %d blocks, which have room", w.p, len(among), w.array.Blocks())
		}
		return
	}
	answers(t, "a change", err, api.OK)
	w.l = behind
}

func (w *walk) put(t *testing.T) {
	name, data := w.name(), drawBytes(w.Rand, w.size())
	err := w.s.Put(name, data)
	if _, there := w.l[name]; there {
		answers(t, "Put of an object that is there", err, api.ErrExists)
		return
	}
	l := maps.Clone(w.l)
	l[name] = data
	w.changed(t, err, l, l)
}

func (w *walk) delete(t *testing.T) {
	name := w.name()
	err := w.s.Delete(name)
	if _, there := w.l[name]; !there {
		answers(t, "Delete of none", err, api.ErrMissing)
		return
	}
	l := maps.Clone(w.l)
	delete(l, name)
	w.changed(t, err, w.l, l)
}

func (w *walk) get(t *testing.T) {
	name := w.name()
	if _, there := w.l[name]; !there {
		gotNot(t, w.s, name, api.ErrMissing)
		return
	}
	if b, err := w.s.Get(name); err != nil || !bytes.Equal(b, w.l[name]) {
		t.Fatalf("%v: Get(%q): %x, %v, want %x", w.p, name, b, err, w.l[name])
	}
}

func TestP12P13InManyOrders(t *testing.T) {
	r := draw()
	for _, p := range few {
		full := 0
		for _, blocks := range []int{8, 9, 12, 20, 40, 100, 400} {
			w := &walk{Rand: r, p: p, array: api.NewArray(p.Shards(), blocks), l: objects{}}
			w.s = open(t, w.array, p, r.IntN(3))
			for range 150 {
				switch r.IntN(8) {
				case 0, 1, 2, 3:
					w.put(t)
				case 4, 5:
					w.delete(t)
				case 6:
					w.get(t)
				case 7:
					w.s = open(t, w.array, p, r.IntN(65))
				}
				if r.IntN(6) == 0 {
					holds(t, fmt.Sprint(p, " on ", blocks, " blocks"), w.s, w.l)
				}
			}
			holds(t, "at the end", w.s, w.l)
			holds(t, "at the end, opened anew", open(t, w.array, p, 0), w.l)
			full += w.full
		}
		if full == 0 {
			t.Errorf("%v: the drives were never full", p)
		}
	}
}
