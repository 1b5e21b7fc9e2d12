package stripes_test

import (
	"math/bits"
	"testing"

	"stripes/stripes"
)

func TestP4Examples(t *testing.T) {
	for _, x := range []struct {
		rows [][]byte
		want int
	}{
		{[][]byte{{1, 2}, {2, 4}}, 1},
		{[][]byte{{1, 2}, {2, 5}}, 2},
		{[][]byte{{1}, {1, 1}, {0, 1}}, 2},
	} {
		if got := stripes.Rank(x.rows); got != x.want {
			t.Errorf("Rank(%v) = %d, want %d", x.rows, got, x.want)
		}
	}
}

func TestP4Edges(t *testing.T) {
	wide := func(n int) []byte { return append(make([]byte, n-1), 7) }
	empty := func(n int) [][]byte { return make([][]byte, n) }
	for _, x := range []struct {
		what string
		rows [][]byte
		want int
	}{
		{"no rows", nil, 0},
		{"no rows, but not nil", [][]byte{}, 0},
		{"a row without numbers", [][]byte{{}}, 0},
		{"rows of noughts", [][]byte{{0}, nil, {0, 0, 0}}, 0},
		{"a short row behind a long one", [][]byte{{0, 0, 1}, {5}}, 2},
		{"rows alike but for noughts behind", [][]byte{{3, 4}, {3, 4, 0}, {3, 4, 0, 0}}, 1},
		{"64 rows of no numbers", empty(64), 0},
		{"65 rows of no numbers", empty(65), -1},
		{"5000 rows of no numbers", empty(5000), -1},
		{"a row of 64 numbers", [][]byte{wide(64)}, 1},
		{"a row of 65 numbers", [][]byte{wide(65)}, -1},
		{"a row of 65 noughts", [][]byte{make([]byte, 65)}, -1},
		{"a row of 65 numbers behind others", [][]byte{{1}, nil, wide(65)}, -1},
		{"a row of 65 numbers as the last of 64", append(empty(63), wide(65)), -1},
		{"65 rows of 65 numbers", append(empty(64), wide(65)), -1},
		{"64 rows, the last one of 64 numbers", append(empty(63), wide(64)), 1},
		{"65 rows, the last one of 64 numbers", append(empty(64), wide(64)), -1},
	} {
		if got := stripes.Rank(x.rows); got != x.want {
			t.Errorf("Rank of %s is %d, want %d", x.what, got, x.want)
		}
	}
}

// powers has the powers of i + 1 in row i: any so many rows as there are columns are independent.
func powers(rows, columns int) [][]byte {
	m := make([][]byte, rows)
	for i := range m {
		m[i] = make([]byte, columns)
		x := byte(1)
		for j := range m[i] {
			m[i][j] = x
			x = product(x, byte(i+1))
		}
	}
	return m
}

// through multiplies matrices.
func through(a, b [][]byte) [][]byte {
	m := make([][]byte, len(a))
	for i := range a {
		m[i] = make([]byte, len(b[0]))
		for k := range b {
			for j := range b[k] {
				m[i][j] ^= product(a[i][k], b[k][j])
			}
		}
	}
	return m
}

func TestP4GreatRows(t *testing.T) {
	for _, k := range []int{1, 2, 5, 31, 63, 64} {
		if got := stripes.Rank(through(powers(64, k), powers(k, 64))); got != k {
			t.Errorf("Rank of 64 rows that are made of %d: %d", k, got)
		}
	}
}

// determinant of the matrix of the rows and columns whose bits are set, by its first row.
func determinant(m [][]byte, rows, columns uint) byte {
	if rows == 0 {
		return 1
	}
	first := bits.TrailingZeros(rows)
	var sum byte
	for c := columns; c != 0; c &= c - 1 {
		j := bits.TrailingZeros(c)
		if j < len(m[first]) {
			sum ^= product(m[first][j], determinant(m, rows&^(1<<first), columns&^(1<<j)))
		}
	}
	return sum
}

// rankByMinors is the size of the greatest square within, whose determinant is not 0.
func rankByMinors(m [][]byte, width int) int {
	rank := 0
	for rows := range uint(1) << len(m) {
		for columns := range uint(1) << width {
			n := bits.OnesCount(rows)
			if n > rank && n == bits.OnesCount(columns) && determinant(m, rows, columns) != 0 {
				rank = n
			}
		}
	}
	return rank
}

func TestP4RowsOfDifferentLengths(t *testing.T) {
	r := draw()
	seen := [5]int{}
	for range 1500 {
		m := make([][]byte, r.IntN(5))
		for i := range m {
			m[i] = make([]byte, r.IntN(5))
			for j := range m[i] {
				m[i][j] = byte(r.IntN(3))
			}
			if i > 0 && r.IntN(3) == 0 {
				m[i] = through([][]byte{{byte(r.IntN(256))}}, [][]byte{append([]byte{}, m[i-1]...)})[0]
			}
		}
		want := rankByMinors(m, 4)
		seen[want]++
		if got := stripes.Rank(m); got != want {
			t.Fatalf("Rank(%v) = %d, want %d", m, got, want)
		}
	}
	for rank, n := range seen {
		if n == 0 {
			t.Errorf("no rows of the rank %d were tried", rank)
		}
	}
}
