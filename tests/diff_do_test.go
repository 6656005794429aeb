package tests

import (
	"math"
	"slices"
	"testing"

	"loop.example/g00635/impl"
)

// sameTile is that many Changes of the place 0, 0, each from the tile to itself.
func sameTile(size int, tile int64) []impl.Change {
	return slices.Repeat([]impl.Change{{Old: tile, New: tile}}, size)
}

func TestDiffDoByHand(t *testing.T) {
	g := gridOf("0123\n4567\n8901\n2345\n")
	for _, c := range []struct {
		name string
		l    []impl.Change
		want string
	}{
		{"none", nil, "0123\n4567\n8901\n2345\n"},
		{"an empty list", []impl.Change{}, "0123\n4567\n8901\n2345\n"},
		{"left above", []impl.Change{{X: 0, Y: 0, Old: 0, New: 9}}, "9123\n4567\n8901\n2345\n"},
		{"right above", []impl.Change{{X: 3, Y: 0, Old: 3, New: 9}}, "0129\n4567\n8901\n2345\n"},
		{"left below", []impl.Change{{X: 0, Y: 3, Old: 2, New: 9}}, "0123\n4567\n8901\n9345\n"},
		{"right below", []impl.Change{{X: 3, Y: 3, Old: 5, New: 0}}, "0123\n4567\n8901\n2340\n"},
		{"x and y", []impl.Change{{X: 1, Y: 2, Old: 9, New: 7}}, "0123\n4567\n8701\n2345\n"},
		{"to itself", []impl.Change{{X: 2, Y: 1, Old: 6, New: 6}}, "0123\n4567\n8901\n2345\n"},
		{"in any order", []impl.Change{{X: 2, Y: 3, Old: 4, New: 0}, {X: 1, Y: 0, Old: 1, New: 8}}, "0823\n4567\n8901\n2305\n"},
		{"one place twice", []impl.Change{{X: 1, Y: 1, Old: 5, New: 6}, {X: 1, Y: 1, Old: 6, New: 7}}, "0123\n4767\n8901\n2345\n"},
		{"there and back", []impl.Change{{X: 1, Y: 1, Old: 5, New: 6}, {X: 1, Y: 1, Old: 6, New: 5}}, "0123\n4567\n8901\n2345\n"},
		{"twice, another one between", []impl.Change{{X: 0, Y: 0, Old: 0, New: 1}, {X: 3, Y: 3, Old: 5, New: 6}, {X: 0, Y: 0, Old: 1, New: 2}}, "2123\n4567\n8901\n2346\n"},
	} {
		got := impl.DiffDo(g, c.l)
		if text := impl.GridText(got.Grid); got.Code != impl.OK || text != c.want {
			t.Errorf("%s: got %q, code %d, want %q", c.name, text, got.Code, c.want)
		}
	}
}

// Each place of each side, from its tile to each tile.
func TestDiffDoEachPlace(t *testing.T) {
	for _, side := range rightSides() {
		g := mixed(side, 6)
		for at, old := range g.Tiles {
			for _, tile := range rightTiles() {
				want := copyGrid(g)
				want.Tiles[at] = tile
				l := []impl.Change{{X: int64(at) % side, Y: int64(at) / side, Old: old, New: tile}}
				if got := impl.DiffDo(g, l); got.Code != impl.OK || !likeGrid(got.Grid, want) {
					t.Fatalf("side %d, %+v: got %+v", side, l, got)
				}
			}
		}
	}
}

func TestDiffDoSizes(t *testing.T) {
	for _, side := range rightSides() {
		g := mixed(side, 4)
		for _, size := range []int{0, 1, 63, 64} {
			if got := impl.DiffDo(g, sameTile(size, 4)); got.Code != impl.OK || !likeGrid(got.Grid, g) {
				t.Errorf("side %d, %d Changes: got %+v", side, size, got)
			}
		}
		for _, size := range []int{65, 66, 128, impl.MaxList - 1, impl.MaxList} {
			if got := impl.DiffDo(g, sameTile(size, 4)); !onlyCode(got, impl.ErrForm) {
				t.Errorf("side %d, %d Changes: got %+v", side, size, got)
			}
		}
		for _, size := range []int{impl.MaxList + 1, impl.MaxList + 2, 10 * impl.MaxList} {
			if got := impl.DiffDo(g, sameTile(size, 4)); !onlyCode(got, impl.ErrSize) {
				t.Errorf("side %d, %d Changes: got %+v", side, size, got)
			}
		}
	}
}

// All of 64 are done, one after the other, also where they are of one place.
func TestDiffDoSixtyFour(t *testing.T) {
	var l []impl.Change
	for i := range int64(64) {
		l = append(l, impl.Change{Old: i % 10, New: (i + 1) % 10})
	}
	for _, side := range rightSides() {
		g := impl.GridNew(side, 0).Grid
		want := impl.Fill(g, 0, 0, 1, 1, 4).Grid
		if got := impl.DiffDo(g, l); got.Code != impl.OK || !likeGrid(got.Grid, want) {
			t.Errorf("side %d: got %+v", side, got)
		}
	}
	a, b := mixed(8, 0), mixed(8, 5)
	if l := impl.DiffOf(a, b); len(l) != 64 || !likeGrid(impl.DiffDo(a, l).Grid, b) {
		t.Errorf("of %d Changes comes %+v", len(l), impl.DiffDo(a, l))
	}
}

func TestDiffDoWrongGrids(t *testing.T) {
	for name, g := range wrongGrids() {
		for _, l := range [][]impl.Change{
			nil,
			{{X: 0, Y: 0, Old: 0, New: 1}},
			{{X: 0, Y: 0, Old: 10, New: 1}},
			{{X: -1}},
			{{New: 10}},
			{{Old: 5}},
			sameTile(64, 0),
			sameTile(65, 0),
			sameTile(impl.MaxList, 0),
		} {
			if got := impl.DiffDo(g, l); !onlyCode(got, impl.ErrForm) {
				t.Errorf("%s, %d Changes: got %+v", name, len(l), got)
			}
		}
		if got := impl.DiffDo(g, sameTile(impl.MaxList+1, 0)); !onlyCode(got, impl.ErrSize) {
			t.Errorf("%s, too many: got %+v", name, got)
		}
	}
}

// How many there are is looked for ahead of what they are.
func TestDiffDoSizeAheadOfChanges(t *testing.T) {
	g := mixed(4, 4)
	for _, bad := range []impl.Change{{X: -1}, {Y: 4}, {New: 10, Old: 4}, {Old: 5}} {
		for size, code := range map[int]int64{65: impl.ErrForm, impl.MaxList: impl.ErrForm, impl.MaxList + 1: impl.ErrSize} {
			for _, at := range []int{0, 1, size - 1} {
				l := sameTile(size, 4)
				l[at] = bad
				if got := impl.DiffDo(g, l); !onlyCode(got, code) {
					t.Errorf("%+v at %d of %d: got %+v", bad, at, size, got)
				}
			}
		}
	}
}

// Each Old and New stands beside a place that is not there: that is named first.
func TestDiffDoNoPlace(t *testing.T) {
	for _, side := range rightSides() {
		g := impl.GridNew(side, 3).Grid
		for _, far := range append(beyond(side), 1<<60, -1<<61, math.MaxInt64-side, math.MinInt64+side) {
			for _, c := range [][2]int64{{far, 0}, {0, far}, {far, side - 1}, {side - 1, far}, {far, far}} {
				for _, old := range []int64{3, 4, -1, 10} {
					for _, tile := range []int64{0, 3, 9, -1, 10} {
						l := []impl.Change{{X: c[0], Y: c[1], Old: old, New: tile}}
						if got := impl.DiffDo(g, l); !onlyCode(got, impl.ErrRange) {
							t.Errorf("side %d, %+v: got %+v", side, l, got)
						}
					}
				}
			}
		}
	}
}

func TestDiffDoNew(t *testing.T) {
	for _, side := range rightSides() {
		g := impl.GridNew(side, 3).Grid
		for _, tile := range wrongTiles() {
			for _, old := range []int64{3, 4, -1, 10, tile} {
				l := []impl.Change{{X: side - 1, Y: 0, Old: old, New: tile}}
				if got := impl.DiffDo(g, l); !onlyCode(got, impl.ErrRange) {
					t.Errorf("side %d, %+v: got %+v", side, l, got)
				}
			}
		}
		for _, tile := range []int64{0, impl.Wall} {
			l := []impl.Change{{X: side - 1, Y: 0, Old: 3, New: tile}}
			if got := impl.DiffDo(g, l); got.Code != impl.OK || impl.TileAt(got.Grid, side-1, 0) != tile {
				t.Errorf("side %d, %+v: got %+v", side, l, got)
			}
		}
	}
}

func TestDiffDoOld(t *testing.T) {
	for _, side := range rightSides() {
		g := mixed(side, 1)
		for at, there := range g.Tiles {
			for _, old := range append(rightTiles(), wrongTiles()...) {
				if old == there {
					continue
				}
				for _, tile := range []int64{0, 9, there} {
					l := []impl.Change{{X: int64(at) % side, Y: int64(at) / side, Old: old, New: tile}}
					if got := impl.DiffDo(g, l); !onlyCode(got, impl.ErrState) {
						t.Fatalf("side %d, %+v: got %+v", side, l, got)
					}
				}
			}
		}
	}
}

func TestDiffDoFirstFault(t *testing.T) {
	g := gridOf("12\n34\n")
	right := impl.Change{X: 1, Y: 0, Old: 2, New: 8}
	place := impl.Change{X: 2, Y: 0, Old: 2, New: 8}
	tile := impl.Change{X: 0, Y: 1, Old: 3, New: 10}
	old := impl.Change{X: 0, Y: 1, Old: 4, New: 8}
	for _, c := range []struct {
		name string
		l    []impl.Change
		code int64
	}{
		{"no place, no tile, not Old", []impl.Change{{X: -1, Y: 0, Old: 7, New: 10}}, impl.ErrRange},
		{"no place, not Old", []impl.Change{{X: 0, Y: 2, Old: 7, New: 0}}, impl.ErrRange},
		{"no tile, not Old", []impl.Change{{X: 0, Y: 0, Old: 7, New: -1}}, impl.ErrRange},
		{"not Old ahead of no place", []impl.Change{old, place}, impl.ErrState},
		{"not Old ahead of no tile", []impl.Change{old, tile}, impl.ErrState},
		{"no place ahead of not Old", []impl.Change{place, old}, impl.ErrRange},
		{"no tile ahead of not Old", []impl.Change{tile, old}, impl.ErrRange},
		{"right, not Old, no place", []impl.Change{right, old, place}, impl.ErrState},
		{"right, no place, not Old", []impl.Change{right, place, old}, impl.ErrRange},
		{"right, and no place at the end", []impl.Change{right, {X: 0, Y: 0, Old: 1, New: 2}, place}, impl.ErrRange},
		{"right, and not Old at the end", []impl.Change{right, {X: 0, Y: 0, Old: 1, New: 2}, old}, impl.ErrState},
		{"a fault ahead of what is right", []impl.Change{old, right}, impl.ErrState},
		{"one twice", []impl.Change{right, right}, impl.ErrState},
		{"Old of what it was first", []impl.Change{right, {X: 1, Y: 0, Old: 2, New: 2}}, impl.ErrState},
		{"Old of what it will be", []impl.Change{{X: 1, Y: 0, Old: 8, New: 9}, right}, impl.ErrState},
		{"the last of 64", append(sameTile(63, 1), old), impl.ErrState},
	} {
		if got := impl.DiffDo(g, c.l); !onlyCode(got, c.code) {
			t.Errorf("%s: got %+v, want code %d", c.name, got, c.code)
		}
		if impl.GridText(g) != "12\n34\n" {
			t.Fatalf("%s: the Grid is %q now", c.name, impl.GridText(g))
		}
	}
}

func TestDiffDoIsNewMemory(t *testing.T) {
	for _, l := range [][]impl.Change{nil, {{X: 1, Y: 1, Old: 3, New: 3}}, {{X: 1, Y: 1, Old: 3, New: 8}, {X: 3, Y: 3, Old: 3, New: 9}}} {
		room := slices.Repeat([]int64{3}, 32)
		g := impl.Grid{Side: 4, Tiles: room[8:24]}
		list := slices.Clone(l)
		got := impl.DiffDo(g, l).Grid
		whole := copyGrid(got)
		for i := range got.Tiles {
			got.Tiles[i] = 77
		}
		_ = append(got.Tiles, 55)
		if !slices.Equal(room, slices.Repeat([]int64{3}, 32)) || !slices.Equal(l, list) {
			t.Errorf("%+v: what was handed in is turned: %v", list, room)
		}
		again := impl.DiffDo(g, l).Grid
		for i := range room {
			room[i] = 66
		}
		if !likeGrid(again, whole) {
			t.Errorf("%+v: what was handed in shares memory with the answer", list)
		}
	}
}
