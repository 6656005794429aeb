package tests

import (
	"math"
	"slices"
	"testing"

	"loop.example/g00635/impl"
)

func rightSides() []int64 {
	return []int64{1, 2, 4, 8}
}

func wrongSides() []int64 {
	return []int64{0, 3, 5, 6, 7, 9, 10, 16, 32, 64, -1, -2, -4, -8, 1 << 32, math.MinInt64, math.MaxInt64}
}

func rightTiles() []int64 {
	return []int64{0, 1, 2, 3, 4, 5, 6, 7, 8, 9}
}

func wrongTiles() []int64 {
	return []int64{-1, 10, '0', '9', 256, 1 << 32, math.MinInt64, math.MaxInt64}
}

// mixed is a right Grid in which tiles beside and below each other are other ones; seeds make other Grids.
func mixed(side int64, seed int64) impl.Grid {
	g := impl.Grid{Side: side}
	for i := range side * side {
		g.Tiles = append(g.Tiles, (i*7+i/side*4+seed)%10)
	}
	return g
}

func copyGrid(g impl.Grid) impl.Grid {
	return impl.Grid{Side: g.Side, Tiles: slices.Clone(g.Tiles)}
}

// likeGrid compares field by field, whether the Grids are right or not.
func likeGrid(a impl.Grid, b impl.Grid) bool {
	return a.Side == b.Side && slices.Equal(a.Tiles, b.Tiles)
}

// onlyCode holds if nothing but the code is told.
func onlyCode(out impl.GridOut, code int64) bool {
	return out.Code == code && out.Grid.Side == 0 && len(out.Grid.Tiles) == 0
}

func wrongGrids() map[string]impl.Grid {
	out := map[string]impl.Grid{
		"zero":              {},
		"side without":      {Side: 1},
		"empty list":        {Side: 2, Tiles: []int64{}},
		"tiles alone":       {Tiles: []int64{1}},
		"three by three":    {Side: 3, Tiles: make([]int64, 9)},
		"sixteen":           {Side: 16, Tiles: make([]int64, 256)},
		"side below 0":      {Side: -1, Tiles: make([]int64, 1)},
		"side -2":           {Side: -2, Tiles: make([]int64, 4)},
		"one too few":       {Side: 4, Tiles: make([]int64, 15)},
		"one too many":      {Side: 4, Tiles: make([]int64, 17)},
		"one row":           {Side: 4, Tiles: make([]int64, 4)},
		"square wraps to 0": {Side: 1 << 32},
		"greatest side":     {Side: math.MaxInt64, Tiles: make([]int64, 1)},
		"least side":        {Side: math.MinInt64},
	}
	first, last := mixed(4, 0), mixed(4, 0)
	first.Tiles[0] = 10
	last.Tiles[15] = -1
	out["first tile 10"] = first
	out["last tile -1"] = last
	return out
}

func TestGridLimits(t *testing.T) {
	if impl.MaxSide != 8 || impl.Wall != 9 {
		t.Errorf("limits are %d, %d", impl.MaxSide, impl.Wall)
	}
}

func TestGridRightSides(t *testing.T) {
	for _, side := range rightSides() {
		if !impl.GridRight(mixed(side, 0)) {
			t.Errorf("side %d is not right", side)
		}
	}
	for _, side := range wrongSides() {
		size := int64(0)
		if side > -100 && side < 100 {
			size = side * side
		}
		if impl.GridRight(impl.Grid{Side: side, Tiles: make([]int64, size)}) {
			t.Errorf("side %d is right", side)
		}
	}
}

func TestGridRightCountsTiles(t *testing.T) {
	for _, side := range rightSides() {
		for size := range int64(100) {
			g := impl.Grid{Side: side, Tiles: make([]int64, size)}
			if got := impl.GridRight(g); got != (size == side*side) {
				t.Errorf("side %d with %d tiles: got %v", side, size, got)
			}
		}
		if impl.GridRight(impl.Grid{Side: side}) {
			t.Errorf("side %d without tiles is right", side)
		}
	}
}

func TestGridRightTiles(t *testing.T) {
	for _, side := range rightSides() {
		for at := range side * side {
			g := mixed(side, 0)
			for _, tile := range rightTiles() {
				g.Tiles[at] = tile
				if !impl.GridRight(g) {
					t.Errorf("side %d, tile %d at %d is not right", side, tile, at)
				}
			}
			for _, tile := range wrongTiles() {
				g.Tiles[at] = tile
				if impl.GridRight(g) {
					t.Errorf("side %d, tile %d at %d is right", side, tile, at)
				}
			}
		}
	}
}

func TestGridRightWrongGrids(t *testing.T) {
	for name, g := range wrongGrids() {
		if impl.GridRight(g) {
			t.Errorf("%s: is right", name)
		}
	}
}

func TestGridNew(t *testing.T) {
	for _, side := range rightSides() {
		for _, tile := range rightTiles() {
			want := impl.Grid{Side: side, Tiles: slices.Repeat([]int64{tile}, int(side*side))}
			got := impl.GridNew(side, tile)
			if got.Code != impl.OK || !likeGrid(got.Grid, want) {
				t.Errorf("GridNew(%d, %d) = %+v", side, tile, got)
			}
		}
		for _, tile := range wrongTiles() {
			if got := impl.GridNew(side, tile); !onlyCode(got, impl.ErrForm) {
				t.Errorf("GridNew(%d, %d) = %+v", side, tile, got)
			}
		}
	}
}

func TestGridNewWrongSides(t *testing.T) {
	for _, side := range wrongSides() {
		for _, tile := range []int64{0, 9, -1, 10} {
			if got := impl.GridNew(side, tile); !onlyCode(got, impl.ErrForm) {
				t.Errorf("GridNew(%d, %d) = %+v", side, tile, got)
			}
		}
	}
}

func TestGridNewIsNewMemory(t *testing.T) {
	a, b := impl.GridNew(4, 3), impl.GridNew(4, 3)
	a.Grid.Tiles[5] = 8
	if b.Grid.Tiles[5] != 3 || impl.GridNew(4, 3).Grid.Tiles[5] != 3 {
		t.Error("two answers share memory")
	}
}

func TestTileAtEachPlace(t *testing.T) {
	g := impl.Grid{Side: 4, Tiles: []int64{
		0, 1, 2, 3,
		4, 5, 6, 7,
		8, 9, 3, 1,
		2, 7, 6, 9,
	}}
	for _, c := range []struct{ x, y, want int64 }{
		{0, 0, 0}, {3, 0, 3}, {0, 3, 2}, {3, 3, 9}, {1, 0, 1}, {0, 1, 4}, {1, 2, 9}, {2, 1, 6},
	} {
		if got := impl.TileAt(g, c.x, c.y); got != c.want {
			t.Errorf("TileAt %d, %d = %d, want %d", c.x, c.y, got, c.want)
		}
	}
	for _, side := range rightSides() {
		g := mixed(side, 3)
		for i, want := range g.Tiles {
			if got := impl.TileAt(g, int64(i)%side, int64(i)/side); got != want {
				t.Errorf("side %d: tile %d is %d, want %d", side, i, got, want)
			}
		}
	}
}

func TestTileAtBeyond(t *testing.T) {
	for _, side := range rightSides() {
		g := mixed(side, 1)
		for _, beyond := range []int64{-1, -2, -side, side, side + 1, side * side, 1 << 32, 1 << 61, math.MinInt64, math.MaxInt64} {
			for _, inside := range []int64{0, side - 1} {
				if got := impl.TileAt(g, beyond, inside); got != -1 {
					t.Errorf("side %d: TileAt %d, %d = %d", side, beyond, inside, got)
				}
				if got := impl.TileAt(g, inside, beyond); got != -1 {
					t.Errorf("side %d: TileAt %d, %d = %d", side, inside, beyond, got)
				}
			}
			if got := impl.TileAt(g, beyond, beyond); got != -1 {
				t.Errorf("side %d: TileAt %d, %d = %d", side, beyond, beyond, got)
			}
		}
	}
}

func TestTileAtWrongGrids(t *testing.T) {
	for name, g := range wrongGrids() {
		for _, at := range []int64{0, 1, -1, math.MinInt64, math.MaxInt64} {
			if got := impl.TileAt(g, at, at); got != -1 {
				t.Errorf("%s: TileAt %d, %d = %d", name, at, at, got)
			}
		}
	}
}

func TestSameGrid(t *testing.T) {
	for _, side := range rightSides() {
		g := mixed(side, 2)
		if !impl.SameGrid(g, g) || !impl.SameGrid(g, copyGrid(g)) {
			t.Errorf("side %d: alike, and not the same", side)
		}
		for at := range g.Tiles {
			other := copyGrid(g)
			other.Tiles[at] = (other.Tiles[at] + 1) % 10
			if impl.SameGrid(g, other) || impl.SameGrid(other, g) {
				t.Errorf("side %d: other at %d, and the same", side, at)
			}
		}
	}
}

func TestSameGridOtherSide(t *testing.T) {
	for _, a := range rightSides() {
		for _, b := range rightSides() {
			if got := impl.SameGrid(impl.GridNew(a, 5).Grid, impl.GridNew(b, 5).Grid); got != (a == b) {
				t.Errorf("sides %d and %d: got %v", a, b, got)
			}
		}
	}
}

func TestSameGridWrongGrids(t *testing.T) {
	for name, g := range wrongGrids() {
		if impl.SameGrid(g, copyGrid(g)) {
			t.Errorf("%s: the same as its copy", name)
		}
		for _, side := range rightSides() {
			r := mixed(side, 0)
			if impl.SameGrid(g, r) || impl.SameGrid(r, g) {
				t.Errorf("%s: the same as a right one of side %d", name, side)
			}
		}
	}
}

// The Tiles are alike here, and only the Side makes one of them wrong.
func TestSameGridWrongSideAlone(t *testing.T) {
	r := mixed(4, 0)
	for _, side := range []int64{-4, 0, 2, 8, 16} {
		wrong := impl.Grid{Side: side, Tiles: slices.Clone(r.Tiles)}
		if impl.SameGrid(r, wrong) || impl.SameGrid(wrong, r) {
			t.Errorf("side %d: the same", side)
		}
	}
}
