// Package linear works rows of numbers of the field off one another.
package linear

import "stripes/field"

// Size is how many rows, and how many numbers of each, are looked at.
const Size = 64

// grid has rows side by side; what a row lacks is 0 there.
type grid [Size][Size]byte

// Rank tells how many of the rows are independent; -1, if there are more than Size of them, or one has more than Size numbers.
func Rank(rows [][]byte) int {
	if !fits(rows) {
		return -1
	}
	g := lay(rows)
	rank := 0
columns:
	for c := range Size {
		for r := rank; r < len(rows); r++ {
			if g[r][c] == 0 {
				continue
			}
			g[rank], g[r] = g[r], g[rank]
			g.workOff(rank, c, len(rows))
			rank++
			continue columns
		}
	}
	return rank
}

// fits tells whether the rows have room in a grid.
func fits(rows [][]byte) bool {
	if len(rows) > Size {
		return false
	}
	for _, r := range rows {
		if len(r) > Size {
			return false
		}
	}
	return true
}

// lay copies rows into a grid, so that the caller's are not written into.
func lay(rows [][]byte) grid {
	var g grid
	for i, r := range rows {
		copy(g[i][:], r)
	}
	return g
}

// workOff makes column c 0 in the rows from top + 1 to end - 1, by adding multiples of row top, whose number there is not 0.
func (g *grid) workOff(top, c, end int) {
	inverse := field.Inv(g[top][c])
	for r := top + 1; r < end; r++ {
		field.AddTimes(g[r][c:], g[top][c:], field.Mul(g[r][c], inverse))
	}
}
