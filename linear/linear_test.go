package linear

import "testing"

func TestWorkOffClearsTheColumnBelow(t *testing.T) {
	rows := [][]byte{{9, 9, 9}, {0, 7, 1}, {0, 200, 5}, {0, 0, 3}, {0, 7, 1}, {0, 7, 1}}
	g := lay(rows)
	was := g
	g.workOff(1, 1, 5)
	for r := 2; r < 5; r++ {
		if g[r][1] != 0 {
			t.Errorf("row %d begins with %d at column 1", r, g[r][1])
		}
	}
	if g[4] != (grid{}[0]) {
		t.Error("a row less its like is not 0")
	}
	if g[0] != was[0] || g[1] != was[1] || g[3] != was[3] || g[5] != was[5] {
		t.Error("a row was changed that had nothing to be worked off, or was not asked for")
	}
}
