package stripes_test

import (
	"fmt"
	"math"
	"math/bits"
	"slices"
	"testing"

	"stripes/api"
	"stripes/stripes"
)

// shardsOf has the numbers of a set, from the least one on.
func shardsOf(set uint64) []int {
	var l []int
	for i := range 64 {
		if set>>i&1 == 1 {
			l = append(l, i)
		}
	}
	return l
}

// loaded has the shards that a program loads, in that order.
func loaded(g api.Program) []int {
	var l []int
	for _, s := range g.Steps {
		if s.Kind == api.Load {
			l = append(l, s.B)
		}
	}
	return l
}

// repairing holds that a program is one, loads no lost shard and none twice, and puts out just the lost ones, whatever the data are.
func repairing(t *testing.T, p api.Params, m [][]byte, lost uint64) api.Program {
	t.Helper()
	g, err := stripes.Compile(p, lost)
	if err != nil {
		t.Fatalf("Compile(%v, %b): %v", p, lost, err)
	}
	if err := stripes.Check(g, len(m)); err != nil {
		t.Fatalf("Compile(%v, %b) = %v, which is no program", p, lost, g)
	}
	var seen uint64
	for _, i := range loaded(g) {
		if (lost|seen)>>i&1 == 1 {
			t.Fatalf("Compile(%v, %b) = %v, which loads shard %d", p, lost, g, i)
		}
		seen |= 1 << i
	}
	puts, rows := sums(g, len(m))
	if want := shardsOf(lost & (1<<len(m) - 1)); !slices.Equal(puts, want) {
		t.Fatalf("Compile(%v, %b) = %v, which puts out %v, want %v", p, lost, g, puts, want)
	}
	for k, row := range through(rows, m) {
		if !slices.Equal(row, m[puts[k]]) {
			t.Fatalf("Compile(%v, %b) = %v, which puts out %v times the data as shard %d, want %v", p, lost, g, row, puts[k], m[puts[k]])
		}
	}
	return g
}

// compilesNot holds that Compile answers an error, and nothing beside it.
func compilesNot(t *testing.T, p api.Params, lost uint64, want api.Errno) {
	t.Helper()
	if g, err := stripes.Compile(p, lost); err != error(want) || g.Regs != 0 || g.Steps != nil {
		t.Fatalf("Compile(%v, %b): %v, %v, want %v alone", p, lost, g, err, want)
	}
}

// ranks tells for each set of rows how many of them are independent.
func ranks(m [][]byte) []int {
	l := make([]int, 1<<len(m))
	for set := range l {
		var rows [][]byte
		for _, i := range shardsOf(uint64(set)) {
			rows = append(rows, m[i])
		}
		l[set] = stripes.Rank(rows)
	}
	return l
}

// leastLoads goes through all sets of shards that are not lost, and tells how many the least one has of whose rows those of the lost shards are made.
func leastLoads(ranks []int, lost uint64) int {
	all := uint64(len(ranks) - 1)
	least := math.MaxInt
	for set := all &^ lost; ; set = (set - 1) & (all &^ lost) {
		if ranks[set|lost] == ranks[set] {
			least = min(least, bits.OnesCount64(set))
		}
		if set == 0 {
			return least
		}
	}
}

// compiles holds Compile against what can be repaired, and with how few shards, at every so-manieth set of lost shards.
func compiles(t *testing.T, p api.Params, every uint64) {
	t.Helper()
	m := matrix(p)
	known := ranks(m)
	all := uint64(len(known) - 1)
	for lost := uint64(0); lost <= all; lost += every {
		if known[all&^lost] < p.Data {
			compilesNot(t, p, lost, api.ErrLost)
			continue
		}
		g := repairing(t, p, m, lost)
		if n, want := len(loaded(g)), leastLoads(known, lost); n != want {
			t.Fatalf("Compile(%v, %b) = %v, which loads %d shards, want %d", p, lost, g, n, want)
		}
	}
}

func TestP9Examples(t *testing.T) {
	p := api.Params{Data: 4, Local: 2, Global: 2}
	m := matrix(p)
	for _, x := range []struct {
		lost uint64
		want int
	}{{0, 0}, {1 << 0, 2}, {1 << 4, 2}, {1<<0 | 1<<4, 4}, {1<<0 | 1<<1 | 1<<2, 4}, {1 << 6, 3}, {1<<4 | 1<<5 | 1<<6 | 1<<7, 4}} {
		if g := repairing(t, p, m, x.lost); len(loaded(g)) != x.want {
			t.Errorf("Compile(%v, %b) = %v, which loads %d shards, want %d", p, x.lost, g, len(loaded(g)), x.want)
		}
	}
	if l := loaded(repairing(t, p, m, 1<<0)); !slices.Equal(slices.Sorted(slices.Values(l)), []int{1, 4}) {
		t.Errorf("for shard 0 the shards %v are loaded, want 1 and 4", l)
	}
	compilesNot(t, p, 1<<0|1<<1|1<<2|1<<3, api.ErrLost)
}

func TestP9AllSets(t *testing.T) {
	for p := range rightParams() {
		if p.Shards() <= 10 {
			compiles(t, p, 1)
		}
	}
	compiles(t, api.Params{Data: 6, Local: 3, Global: 4}, 1)
}

func TestP9GreatParams(t *testing.T) {
	for _, p := range []api.Params{{Data: 12, Local: 4}, {Data: 12, Local: 2, Global: 2}, {Data: 8, Local: 4, Global: 4}, {Data: 9, Local: 3, Global: 4}} {
		compiles(t, p, 61)
	}
}

func TestP9OneOfManyIsLost(t *testing.T) {
	for _, p := range []api.Params{{Data: 12, Local: 1, Global: 3}, {Data: 10, Local: 2, Global: 4}, {Data: 8, Local: 4, Global: 4}} {
		m := matrix(p)
		known := ranks(m)
		for i := range m {
			if n, want := len(loaded(repairing(t, p, m, 1<<i))), leastLoads(known, 1<<i); n != want {
				t.Errorf("%v, shard %d is lost: %d shards are loaded, want %d", p, i, n, want)
			}
		}
	}
}

// All shards of each set that can be repaired, though not how few are loaded, at the params that have the most sets.
func TestP9EverySetOfManyShards(t *testing.T) {
	p := api.Params{Data: 8, Local: 2, Global: 4}
	m := matrix(p)
	tells := enough(m, p.Data)
	all := uint64(len(tells) - 1)
	for lost := range all + 1 {
		if !tells[all&^lost] {
			compilesNot(t, p, lost, api.ErrLost)
		} else if g := repairing(t, p, m, lost); len(loaded(g)) > p.Data {
			t.Fatalf("Compile(%v, %b) = %v, which loads more than %d shards", p, lost, g, p.Data)
		}
	}
}

func TestP9NothingIsLost(t *testing.T) {
	for p := range rightParams() {
		if g := repairing(t, p, matrix(p), 0); len(loaded(g)) != 0 {
			t.Errorf("Compile(%v, 0) = %v, which loads something", p, g)
		}
	}
}

func TestP9RunsOverShards(t *testing.T) {
	r := draw()
	for _, p := range []api.Params{{Data: 1, Local: 1}, {Data: 4, Local: 2, Global: 2}, {Data: 12, Local: 3, Global: 1}, {Data: 8, Local: 4, Global: 4}} {
		for _, length := range []int{0, 1, 64, 4096} {
			shards, err := stripes.Encode(p, drawRows(r, p.Data, length))
			if err != nil {
				t.Fatal(err)
			}
			for range 30 {
				lost := r.Uint64() & r.Uint64() & r.Uint64()
				g, err := stripes.Compile(p, lost)
				if err != nil {
					continue
				}
				there := slices.Clone(shards)
				var want []api.Output
				for _, i := range shardsOf(lost & (1<<len(shards) - 1)) {
					there[i] = nil
					want = append(want, api.Output{Shard: i, Bytes: shards[i]})
				}
				ran(t, g, there, want...)
			}
		}
	}
}

// alikePrograms tells whether programs are the same.
func alikePrograms(a, b api.Program) bool { return a.Regs == b.Regs && slices.Equal(a.Steps, b.Steps) }

func TestP9BitsBeyondTheShards(t *testing.T) {
	for _, p := range []api.Params{{Data: 4, Local: 2, Global: 2}, {Data: 1, Local: 1}, {Data: 12, Local: 4}} {
		all := uint64(1)<<p.Shards() - 1
		for lost := range min(all+1, 1<<10) {
			want, no := stripes.Compile(p, lost)
			for _, beyond := range []uint64{^all, all + 1, 1 << 63} {
				if g, err := stripes.Compile(p, lost|beyond); err != no || !alikePrograms(g, want) {
					t.Fatalf("Compile(%v, %b): %v, %v, want %v, %v", p, lost|beyond, g, err, want, no)
				}
			}
		}
	}
}

func TestP9TheSameEachTime(t *testing.T) {
	for p := range rightParams() {
		for i := range p.Shards() {
			one, err := stripes.Compile(p, 5<<i)
			for range 3 {
				if two, again := stripes.Compile(p, 5<<i); err != again || !alikePrograms(one, two) {
					t.Errorf("Compile(%v, %b): %v, %v, and then %v, %v", p, 5<<i, one, err, two, again)
				}
			}
		}
	}
}

func TestP9Params(t *testing.T) {
	for p := range params() {
		if right(p) {
			compilesNot(t, p, math.MaxUint64, api.ErrLost)
			continue
		}
		for _, lost := range []uint64{0, 1, math.MaxUint64} {
			compilesNot(t, p, lost, api.ErrParams)
		}
	}
	for _, n := range []int{math.MaxInt, math.MinInt} {
		for _, p := range []api.Params{{Data: n, Local: n, Global: n}, {Data: n, Local: 2, Global: 2}, {Data: 4, Local: n, Global: 2}, {Data: 4, Local: 2, Global: n}} {
			compilesNot(t, p, 1, api.ErrParams)
		}
	}
}

func TestP1NoPanicOfCompile(t *testing.T) {
	r := draw()
	odd := []int{math.MinInt, -1, 0, 1, 2, 3, 4, 6, 8, 12, 13, math.MaxInt}
	pick := func() int { return odd[r.IntN(len(odd))] }
	for range 20000 {
		p, lost := api.Params{Data: pick(), Local: pick(), Global: pick()}, r.Uint64()&r.Uint64()
		g, err := stripes.Compile(p, lost)
		if (err == nil) != stripes.Decodable(p, lost) || err != nil && (g.Regs != 0 || g.Steps != nil) {
			t.Fatalf("Compile(%v, %b): %v, %v", p, lost, g, err)
		}
	}
}

func TestP2CompiledIsFresh(t *testing.T) {
	p := api.Params{Data: 6, Local: 2, Global: 2}
	for _, lost := range []uint64{1, 3, 1 << 8, 1<<6 | 1<<7} {
		one, _ := stripes.Compile(p, lost)
		two, _ := stripes.Compile(p, lost)
		was := fmt.Sprint(two)
		room := one.Steps[:cap(one.Steps)]
		for i := range room {
			room[i] = put(7, 7)
		}
		if fmt.Sprint(two) != was {
			t.Errorf("Compile(%v, %b) shares its steps with another answer", p, lost)
		}
		if three := repairing(t, p, matrix(p), lost); fmt.Sprint(three) != was {
			t.Errorf("Compile(%v, %b) hangs on what was done with an earlier answer: %v, was %v", p, lost, three, was)
		}
	}
}
