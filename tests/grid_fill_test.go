package tests

import (
	"math"
	"testing"

	"loop.example/g00635/impl"
)

func within(at int64, from int64, size int64) bool {
	return at >= from && at-from < size
}

// checkFilled asks each place of the answer whether it is filled, or as it was, and the Grid handed in whether it stays.
func checkFilled(t *testing.T, g impl.Grid, x, y, w, h, tile int64) {
	t.Helper()
	before := copyGrid(g)
	out := impl.Fill(g, x, y, w, h, tile)
	if out.Code != impl.OK || out.Grid.Side != g.Side || len(out.Grid.Tiles) != len(g.Tiles) {
		t.Fatalf("side %d, Fill %d %d %d %d %d = %+v", g.Side, x, y, w, h, tile, out)
	}
	for i, got := range out.Grid.Tiles {
		want := before.Tiles[i]
		if within(int64(i)%g.Side, x, w) && within(int64(i)/g.Side, y, h) {
			want = tile
		}
		if got != want {
			t.Fatalf("side %d, Fill %d %d %d %d %d: tile %d is %d, want %d", g.Side, x, y, w, h, tile, i, got, want)
		}
	}
	if !likeGrid(g, before) {
		t.Fatalf("side %d, Fill %d %d %d %d %d turned what was handed in", g.Side, x, y, w, h, tile)
	}
}

func TestFillByHand(t *testing.T) {
	g := impl.GridRead("0123\n4567\n8901\n2345\n").Grid
	for _, c := range []struct {
		name             string
		x, y, w, h, tile int64
		want             string
	}{
		{"whole", 0, 0, 4, 4, 9, "9999\n9999\n9999\n9999\n"},
		{"first tile", 0, 0, 1, 1, 9, "9123\n4567\n8901\n2345\n"},
		{"last tile", 3, 3, 1, 1, 0, "0123\n4567\n8901\n2340\n"},
		{"right above", 3, 0, 1, 1, 8, "0128\n4567\n8901\n2345\n"},
		{"left below", 0, 3, 1, 1, 8, "0123\n4567\n8901\n8345\n"},
		{"row", 0, 1, 4, 1, 0, "0123\n0000\n8901\n2345\n"},
		{"column", 1, 0, 1, 4, 7, "0723\n4767\n8701\n2745\n"},
		{"wide", 1, 2, 3, 1, 6, "0123\n4567\n8666\n2345\n"},
		{"high", 2, 1, 1, 3, 6, "0123\n4567\n8961\n2365\n"},
		{"inside", 1, 1, 2, 2, 0, "0123\n4007\n8001\n2345\n"},
		{"as it is", 1, 2, 1, 1, 9, "0123\n4567\n8901\n2345\n"},
	} {
		out := impl.Fill(g, c.x, c.y, c.w, c.h, c.tile)
		if got := impl.GridText(out.Grid); out.Code != impl.OK || got != c.want {
			t.Errorf("%s: got %q, code %d, want %q", c.name, got, out.Code, c.want)
		}
	}
}

func TestFillEachRectangle(t *testing.T) {
	for _, side := range rightSides() {
		g := mixed(side, 4)
		for x := range side {
			for y := range side {
				for w := int64(1); x+w <= side; w++ {
					for h := int64(1); y+h <= side; h++ {
						checkFilled(t, g, x, y, w, h, (x+3*y+5*w+7*h)%10)
					}
				}
			}
		}
	}
}

func TestFillEachTile(t *testing.T) {
	for _, tile := range rightTiles() {
		for _, side := range rightSides() {
			checkFilled(t, mixed(side, 0), 0, 0, side, side, tile)
			checkFilled(t, mixed(side, 0), side-1, side-1, 1, 1, tile)
		}
	}
}

// Each place from -2 to two beyond the side, with each size from -2 to two more than it, is filled or refused.
func TestFillRangeAtEachEdge(t *testing.T) {
	for _, side := range rightSides() {
		g := mixed(side, 0)
		for at := int64(-2); at <= side+2; at++ {
			for size := int64(-2); size <= side+2; size++ {
				if at >= 0 && size >= 1 && at+size <= side {
					continue
				}
				if got := impl.Fill(g, at, 0, size, 1, 5); !onlyCode(got, impl.ErrRange) {
					t.Errorf("side %d: x %d, w %d: got %+v", side, at, size, got)
				}
				if got := impl.Fill(g, 0, at, 1, size, 5); !onlyCode(got, impl.ErrRange) {
					t.Errorf("side %d: y %d, h %d: got %+v", side, at, size, got)
				}
			}
		}
	}
}

func TestFillRangeOfGreatNumbers(t *testing.T) {
	g := mixed(8, 0)
	great := []int64{math.MinInt64, math.MinInt64 + 1, math.MinInt64 + 7, -1 << 62, -1 << 32, 1 << 32, 1 << 61, 1 << 62, math.MaxInt64 - 7, math.MaxInt64 - 1, math.MaxInt64}
	all := append([]int64{-1, 0, 1, 7, 8}, great...)
	for _, a := range great {
		for _, b := range all {
			for _, c := range [][4]int64{{a, 0, b, 1}, {b, 0, a, 1}, {0, a, 1, b}, {0, b, 1, a}, {a, a, b, b}, {b, b, a, a}} {
				if got := impl.Fill(g, c[0], c[1], c[2], c[3], 5); !onlyCode(got, impl.ErrRange) {
					t.Errorf("Fill %v: got %+v", c, got)
				}
			}
		}
	}
}

// badRectangles are four numbers each that are refused in any Grid.
func badRectangles() [][4]int64 {
	return [][4]int64{
		{-1, 0, 1, 1}, {0, -1, 1, 1}, {0, 0, 0, 1}, {0, 0, 1, 0}, {0, 0, -1, 1}, {0, 0, 1, -1},
		{0, 0, 9, 1}, {0, 0, 1, 9}, {8, 0, 1, 1}, {0, 8, 1, 1}, {math.MaxInt64, 0, math.MaxInt64, 1},
	}
}

func TestFillFormOfGrid(t *testing.T) {
	for name, g := range wrongGrids() {
		if got := impl.Fill(g, 0, 0, 1, 1, 5); !onlyCode(got, impl.ErrForm) {
			t.Errorf("%s: got %+v", name, got)
		}
		for _, r := range badRectangles() {
			if got := impl.Fill(g, r[0], r[1], r[2], r[3], 5); !onlyCode(got, impl.ErrForm) {
				t.Errorf("%s, %v: got %+v", name, r, got)
			}
			if got := impl.Fill(g, r[0], r[1], r[2], r[3], 10); !onlyCode(got, impl.ErrForm) {
				t.Errorf("%s, %v, tile 10: got %+v", name, r, got)
			}
		}
	}
}

func TestFillFormOfTile(t *testing.T) {
	for _, side := range rightSides() {
		g := mixed(side, 0)
		for _, tile := range wrongTiles() {
			if got := impl.Fill(g, 0, 0, 1, 1, tile); !onlyCode(got, impl.ErrForm) {
				t.Errorf("side %d, tile %d: got %+v", side, tile, got)
			}
			for _, r := range badRectangles() {
				if got := impl.Fill(g, r[0], r[1], r[2], r[3], tile); !onlyCode(got, impl.ErrForm) {
					t.Errorf("side %d, tile %d, %v: got %+v", side, tile, r, got)
				}
			}
		}
		for _, r := range badRectangles() {
			if got := impl.Fill(g, r[0], r[1], r[2], r[3], 5); !onlyCode(got, impl.ErrRange) {
				t.Errorf("side %d, %v: got %+v", side, r, got)
			}
		}
	}
}

func TestFillIsNewMemory(t *testing.T) {
	g := mixed(4, 0)
	before := copyGrid(g)
	out := impl.Fill(g, 1, 1, 2, 2, 9).Grid
	for i := range out.Tiles {
		out.Tiles[i] = 77
	}
	_ = append(out.Tiles[:0], 55, 55)
	if !likeGrid(g, before) {
		t.Error("the answer shares memory with what was handed in")
	}
	again := impl.Fill(g, 1, 1, 2, 2, 9).Grid
	for i := range g.Tiles {
		g.Tiles[i] = 66
	}
	if impl.GridText(again) != impl.GridText(impl.Fill(before, 1, 1, 2, 2, 9).Grid) {
		t.Error("what was handed in shares memory with the answer")
	}
}

// A Grid whose list has room behind it must not be written to there either.
func TestFillLeavesRoomBehind(t *testing.T) {
	wide := make([]int64, 32)
	for i := range wide {
		wide[i] = 3
	}
	g := impl.Grid{Side: 4, Tiles: wide[8:24]}
	checkFilled(t, g, 0, 0, 4, 4, 9)
	checkFilled(t, g, 3, 3, 1, 1, 9)
	for i, tile := range wide {
		if tile != 3 {
			t.Errorf("number %d is %d", i, tile)
		}
	}
}
