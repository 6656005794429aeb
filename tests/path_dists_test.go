package tests

import (
	"math"
	"slices"
	"testing"

	"loop.example/g00635/impl"
)

// scattered is a right Grid of tiles of all kinds, of which about a third are Walls; seeds make other Grids.
func scattered(side int64, seed int64) impl.Grid {
	g := impl.Grid{Side: side}
	n := uint64(seed)*2862933555777941757 + 3037000493
	for range side * side {
		n = n*6364136223846793005 + 1442695040888963407
		g.Tiles = append(g.Tiles, min(int64(n>>33%14), impl.Wall))
	}
	return g
}

// snake is a Grid of eight in which one way alone goes to and fro between Walls, through all that is no Wall.
func snake() impl.Grid {
	return gridOf("00000000\n99999990\n00000000\n09999999\n00000000\n99999990\n00000000\n09999999\n")
}

// wayGrids are Grids without a Wall, of Walls alone, parted ones, and some between.
func wayGrids(side int64) []impl.Grid {
	plain, wall := impl.GridNew(side, 0).Grid, impl.GridNew(side, impl.Wall).Grid
	half := side / 2
	out := []impl.Grid{
		plain, impl.GridNew(side, 8).Grid, wall,
		impl.Fill(plain, half, 0, 1, side, impl.Wall).Grid,
		impl.Fill(plain, 0, half, side, 1, impl.Wall).Grid,
		impl.Fill(wall, half, half, 1, 1, 3).Grid,
		impl.Fill(plain, half, 0, 1, half+1, 8).Grid,
	}
	for seed := range int64(4) {
		out = append(out, mixed(side, seed), scattered(side, seed))
	}
	if side == 8 {
		out = append(out, snake())
	}
	return out
}

func placeOf(side int64, at int64) impl.Place {
	return impl.Place{X: at % side, Y: at / side}
}

func allPlaces(side int64) []impl.Place {
	var out []impl.Place
	for at := range side * side {
		out = append(out, placeOf(side, at))
	}
	return out
}

// openPlaces are those that are no Walls.
func openPlaces(g impl.Grid) []impl.Place {
	return slices.DeleteFunc(allPlaces(g.Side), func(p impl.Place) bool { return impl.TileAt(g, p.X, p.Y) == impl.Wall })
}

// placesBeyond are not in a Grid of that side: by X alone, by Y alone, and by both. Of some the number, counted row by
// row, would be that of a place that is there, also if it wraps.
func placesBeyond(side int64) []impl.Place {
	var out []impl.Place
	for _, far := range append(beyond(side), -1, side, side+1, 1<<32, 1<<61, -1<<61, math.MaxInt64, math.MinInt64) {
		out = append(out, impl.Place{X: far}, impl.Place{Y: far}, impl.Place{X: far, Y: side - 1}, impl.Place{X: side - 1, Y: far}, impl.Place{X: far, Y: far})
	}
	return append(out, impl.Place{X: -1, Y: 1}, impl.Place{X: side, Y: -1})
}

// stepCost is what a step between both costs, and whether there is one.
func stepCost(g impl.Grid, a impl.Place, b impl.Place) (int64, bool) {
	dx, dy := a.X-b.X, a.Y-b.Y
	if dx*dx+dy*dy != 1 {
		return 0, false
	}
	first, second := impl.TileAt(g, a.X, a.Y), impl.TileAt(g, b.X, b.Y)
	return first + second + 1, first != impl.Wall && second != impl.Wall
}

// modelDists tries each step there is until none leads nearer.
func modelDists(g impl.Grid, from impl.Place) []int64 {
	dists := slices.Repeat([]int64{impl.NoWay}, len(g.Tiles))
	dists[from.Y*g.Side+from.X] = 0
	for turned := true; turned; {
		turned = false
		for p, far := range dists {
			for q, was := range dists {
				cost, there := stepCost(g, placeOf(g.Side, int64(p)), placeOf(g.Side, int64(q)))
				if far != impl.NoWay && there && (was == impl.NoWay || far+cost < was) {
					dists[q] = far + cost
					turned = true
				}
			}
		}
	}
	return dists
}

func TestWayLimits(t *testing.T) {
	if impl.MaxMarks != 4 || impl.NoWay != -1 {
		t.Errorf("limits are %d, %d", impl.MaxMarks, impl.NoWay)
	}
}

func TestDistsByHand(t *testing.T) {
	for _, c := range []struct {
		name string
		text string
		from impl.Place
		want []int64
	}{
		{"one tile", "0\n", impl.Place{}, []int64{0}},
		{"one tile of another kind", "8\n", impl.Place{}, []int64{0}},
		{"one Wall", "9\n", impl.Place{}, nil},
		{"tiles cost", "05\n21\n", impl.Place{}, []int64{0, 6, 3, 7}},
		{"tiles cost, from the right", "05\n21\n", impl.Place{X: 1}, []int64{6, 0, 9, 7}},
		{"tiles cost, from below", "05\n21\n", impl.Place{Y: 1}, []int64{3, 9, 0, 4}},
		{"no step is aslant", "09\n90\n", impl.Place{}, []int64{0, -1, -1, -1}},
		{"no step goes from row to row", "90\n09\n", impl.Place{X: 1}, []int64{-1, 0, -1, -1}},
		{"no step goes from a row's end to the next one", "9990\n0999\n9999\n9999\n", impl.Place{X: 3}, []int64{-1, -1, -1, 0, -1, -1, -1, -1, -1, -1, -1, -1, -1, -1, -1, -1}},
		{"no step goes back to the row above", "9990\n0999\n9999\n9999\n", impl.Place{Y: 1}, []int64{-1, -1, -1, -1, 0, -1, -1, -1, -1, -1, -1, -1, -1, -1, -1, -1}},
		{"round what is dear", "0800\n0800\n0800\n0000\n", impl.Place{}, []int64{0, 9, 8, 9, 1, 10, 7, 8, 2, 11, 6, 7, 3, 4, 5, 6}},
		{"through what is dear", "0800\n0800\n0800\n0800\n", impl.Place{}, []int64{0, 9, 18, 19, 1, 10, 19, 20, 2, 11, 20, 21, 3, 12, 21, 22}},
		{"round a Wall", "0900\n0900\n0900\n0000\n", impl.Place{}, []int64{0, -1, 8, 9, 1, -1, 7, 8, 2, -1, 6, 7, 3, 4, 5, 6}},
		{"parted, on the left", "0900\n0900\n0900\n0900\n", impl.Place{Y: 2}, []int64{2, -1, -1, -1, 1, -1, -1, -1, 0, -1, -1, -1, 1, -1, -1, -1}},
		{"parted, on the right", "0900\n0900\n0900\n0900\n", impl.Place{X: 3, Y: 0}, []int64{-1, -1, 1, 0, -1, -1, 2, 1, -1, -1, 3, 2, -1, -1, 4, 3}},
		{"parted, above", "0000\n9999\n1111\n0000\n", impl.Place{X: 1}, []int64{1, 0, 1, 2, -1, -1, -1, -1, -1, -1, -1, -1, -1, -1, -1, -1}},
		{"parted, below", "0000\n9999\n1111\n0000\n", impl.Place{Y: 2}, []int64{-1, -1, -1, -1, -1, -1, -1, -1, 0, 3, 6, 7, 2, 3, 4, 5}},
	} {
		if got := impl.Dists(gridOf(c.text), c.from); !slices.Equal(got, c.want) {
			t.Errorf("%s: got %v, want %v", c.name, got, c.want)
		}
	}
}

// Of one tile alone a place is as far as it is to the side and up or down, each step twice the tile and 1.
func TestDistsWithoutWall(t *testing.T) {
	for _, side := range rightSides() {
		for tile := range int64(impl.Wall) {
			g := impl.GridNew(side, tile).Grid
			for _, from := range allPlaces(side) {
				dists := impl.Dists(g, from)
				if int64(len(dists)) != side*side {
					t.Fatalf("side %d, tile %d, %+v: got %v", side, tile, from, dists)
				}
				for at, got := range dists {
					to := placeOf(side, int64(at))
					want := (max(from.X-to.X, to.X-from.X) + max(from.Y-to.Y, to.Y-from.Y)) * (2*tile + 1)
					if got != want {
						t.Fatalf("side %d, tile %d, %+v to %+v: got %d, want %d", side, tile, from, to, got, want)
					}
				}
			}
		}
	}
}

func TestDistsEachPlace(t *testing.T) {
	for _, side := range rightSides() {
		for _, g := range wayGrids(side) {
			for _, from := range openPlaces(g) {
				if got, want := impl.Dists(g, from), modelDists(g, from); !slices.Equal(got, want) {
					t.Fatalf("%q from %+v:\ngot  %v\nwant %v", impl.GridText(g), from, got, want)
				}
			}
		}
	}
}

// From corner to corner the way of the snake is as long as there are tiles that are no Walls, less one.
func TestDistsAlongTheSnake(t *testing.T) {
	g := snake()
	dists := impl.Dists(g, impl.Place{})
	if got, want := dists[7*8], int64(len(openPlaces(g))-1); got != want {
		t.Errorf("got %d, want %d", got, want)
	}
}

func TestDistsOfWalls(t *testing.T) {
	for _, side := range rightSides() {
		for _, only := range allPlaces(side) {
			g := impl.Fill(impl.GridNew(side, impl.Wall).Grid, only.X, only.Y, 1, 1, 8).Grid
			for _, from := range allPlaces(side) {
				var want []int64
				if from == only {
					want = slices.Repeat([]int64{impl.NoWay}, int(side*side))
					want[only.Y*side+only.X] = 0
				}
				if got := impl.Dists(g, from); !slices.Equal(got, want) {
					t.Errorf("side %d, only %+v, from %+v: got %v", side, only, from, got)
				}
			}
		}
		for _, from := range allPlaces(side) {
			if got := impl.Dists(impl.GridNew(side, impl.Wall).Grid, from); len(got) != 0 {
				t.Errorf("side %d of Walls, from %+v: got %v", side, from, got)
			}
			if got := impl.Dists(impl.Fill(impl.GridNew(side, 0).Grid, from.X, from.Y, 1, 1, impl.Wall).Grid, from); len(got) != 0 {
				t.Errorf("side %d, from the Wall at %+v: got %v", side, from, got)
			}
		}
	}
}

func TestDistsFromBeyond(t *testing.T) {
	for _, side := range rightSides() {
		for _, g := range []impl.Grid{impl.GridNew(side, 0).Grid, mixed(side, 1)} {
			for _, from := range placesBeyond(side) {
				if got := impl.Dists(g, from); len(got) != 0 {
					t.Errorf("side %d, from %+v: got %v", side, from, got)
				}
			}
		}
	}
}

func TestDistsWrongGrids(t *testing.T) {
	for name, g := range wrongGrids() {
		for _, from := range append(allPlaces(4), placesBeyond(4)...) {
			if got := impl.Dists(g, from); len(got) != 0 {
				t.Errorf("%s, from %+v: got %v", name, from, got)
			}
		}
	}
}

func TestDistsIsNewMemory(t *testing.T) {
	room := slices.Repeat([]int64{3}, 32)
	g := impl.Grid{Side: 4, Tiles: room[8:24]}
	got := impl.Dists(g, impl.Place{X: 1, Y: 1})
	want := slices.Clone(got)
	for i := range got {
		got[i] = 77
	}
	_ = append(got, 55)
	if !slices.Equal(room, slices.Repeat([]int64{3}, 32)) {
		t.Errorf("what was handed in is %v now", room)
	}
	again := impl.Dists(g, impl.Place{X: 1, Y: 1})
	for i := range room {
		room[i] = impl.Wall
	}
	if !slices.Equal(again, want) {
		t.Errorf("got %v, want %v", again, want)
	}
}
