package tests

import (
	"math"
	"slices"
	"testing"

	"loop.example/g00635/impl"
)

func TestNodeFillByHand(t *testing.T) {
	p := poolOf(leaf(0), leaf(5), split(1, 0, 0, 0))
	for _, c := range []struct {
		name             string
		root, side       int64
		x, y, w, h, tile int64
		more             []impl.Node
		want             int64
	}{
		{"as it is", 2, 2, 0, 0, 1, 1, 5, nil, 2},
		{"whole, of a leaf that is there", 2, 2, 0, 0, 2, 2, 0, nil, 0},
		{"whole, of a new leaf", 2, 8, 0, 0, 8, 8, 7, []impl.Node{leaf(7)}, 3},
		{"one place of a leaf", 0, 2, 0, 0, 1, 1, 5, nil, 2},
		{"a column", 0, 2, 1, 0, 1, 2, 5, []impl.Node{split(0, 1, 0, 1)}, 3},
		{"a row", 0, 2, 0, 1, 2, 1, 5, []impl.Node{split(0, 0, 1, 1)}, 3},
		{"a quarter of side 8", 1, 8, 4, 0, 4, 4, 9, []impl.Node{leaf(9), split(1, 3, 1, 1)}, 4},
		{"in the middle", 0, 4, 1, 1, 2, 2, 5, []impl.Node{split(0, 0, 0, 1), split(0, 0, 1, 0), split(0, 1, 0, 0), split(3, 4, 5, 2)}, 6},
		{"the only place", 1, 1, 0, 0, 1, 1, 0, nil, 0},
	} {
		got := impl.NodeFill(p, c.root, c.side, c.x, c.y, c.w, c.h, c.tile)
		if got.Code != impl.OK || got.Root != c.want || !slices.Equal(got.Pool.Nodes, slices.Concat(p.Nodes, c.more)) {
			t.Errorf("%s: got %+v", c.name, got)
		}
	}
}

// checkNodeFill fills the rows by hand, and puts them into the pool by the model.
func checkNodeFill(t *testing.T, p impl.Pool, root, side, x, y, w, h, tile int64) impl.PoolOut {
	t.Helper()
	before := copyPool(p)
	of, _ := modelRows(p, root, side)
	for at := range side * side {
		if within(at%side, x, w) && within(at/side, y, h) {
			of[at/side][at%side] = tile
		}
	}
	got := impl.NodeFill(p, root, side, x, y, w, h, tile)
	want, at := modelPut(slices.Clone(p.Nodes), of.grid(), 0, 0, side)
	if len(want) > impl.MaxPool {
		if !onlyPoolCode(got, impl.ErrFull) {
			t.Fatalf("node %d, side %d, %d %d %d %d %d: got code %d, root %d, %d nodes", root, side, x, y, w, h, tile, got.Code, got.Root, len(got.Pool.Nodes))
		}
	} else if got.Code != impl.OK || got.Root != at || !slices.Equal(got.Pool.Nodes, want) {
		t.Fatalf("node %d, side %d, %d %d %d %d %d: got %+v, want %+v, root %d", root, side, x, y, w, h, tile, got, want, at)
	}
	if !likePool(p, before) {
		t.Fatalf("node %d, side %d, %d %d %d %d %d: what was handed in is turned", root, side, x, y, w, h, tile)
	}
	return got
}

func TestNodeFillEachRectangle(t *testing.T) {
	p := steps()
	for node, least := range []int64{1, 1, 1, 2, 4, 8} {
		for side := least; side <= 8; side *= 2 {
			for at := range side * side {
				x, y := at%side, at/side
				for _, size := range [][2]int64{{1, 1}, {side - x, 1}, {1, side - y}, {side - x, side - y}, {(side - x + 1) / 2, (side - y + 1) / 2}} {
					checkNodeFill(t, p, int64(node), side, x, y, size[0], size[1], 5)
					checkNodeFill(t, p, int64(node), side, x, y, size[0], size[1], 8)
				}
			}
		}
	}
}

func TestNodeFillNearlyFull(t *testing.T) {
	codes := map[int64]int{}
	for free := range 12 {
		for _, p := range []impl.Pool{widePool(impl.MaxPool - free), tower(impl.MaxPool - free)} {
			for _, c := range [][5]int64{{0, 0, 1, 1, 7}, {1, 1, 2, 2, 1}, {0, 0, 8, 8, 1}, {3, 3, 4, 4, 9}, {7, 0, 1, 8, 2}} {
				codes[checkNodeFill(t, p, 0, 8, c[0], c[1], c[2], c[3], c[4]).Code]++
			}
		}
	}
	if codes[impl.OK] == 0 || codes[impl.ErrFull] == 0 {
		t.Errorf("codes are %v", codes)
	}
}

func TestNodeFillFull(t *testing.T) {
	p := tower(impl.MaxPool)
	for _, c := range []struct {
		name             string
		root, side       int64
		x, y, w, h, tile int64
		code, want       int64
	}{
		{"what is there", 2, 2, 1, 1, 1, 1, 1, impl.OK, 2},
		{"all one tile then", 2, 8, 4, 4, 4, 4, 0, impl.OK, 0},
		{"a split that is there", 0, 8, 4, 4, 4, 4, 1, impl.OK, 2},
		{"a leaf that is new", 2, 8, 0, 0, 8, 8, 2, impl.ErrFull, 0},
		{"a split that is new", 0, 8, 0, 0, 4, 4, 1, impl.ErrFull, 0},
		{"not in it", 0, 8, 0, 0, 9, 1, 2, impl.ErrRange, 0},
		{"no tile", 0, 8, 0, 0, 1, 1, 10, impl.ErrForm, 0},
	} {
		got := impl.NodeFill(p, c.root, c.side, c.x, c.y, c.w, c.h, c.tile)
		if c.code != impl.OK {
			if !onlyPoolCode(got, c.code) {
				t.Errorf("%s: code %d, root %d, %d nodes", c.name, got.Code, got.Root, len(got.Pool.Nodes))
			}
		} else if got.Code != impl.OK || got.Root != c.want || !likePool(got.Pool, p) {
			t.Errorf("%s: code %d, root %d, %d nodes", c.name, got.Code, got.Root, len(got.Pool.Nodes))
		}
	}
}

// What PoolGet tells is told ahead of what Fill tells.
func TestNodeFillPoolFaults(t *testing.T) {
	for name, f := range poolFaults() {
		for _, r := range append(badRectangles(), [4]int64{0, 0, 1, 1}) {
			for _, tile := range []int64{0, 9, 10, -1, math.MaxInt64} {
				if got := impl.NodeFill(f.p, f.root, f.side, r[0], r[1], r[2], r[3], tile); !onlyPoolCode(got, f.code) {
					t.Errorf("%s, %v, tile %d: got %+v, want code %d", name, r, tile, got, f.code)
				}
			}
		}
	}
}

func TestNodeFillFillFaults(t *testing.T) {
	for _, side := range rightSides() {
		for _, r := range append(badRectangles(), [4]int64{0, 0, side + 1, 1}, [4]int64{0, 1, 1, side}, [4]int64{side, 0, 1, 1}) {
			if got := impl.NodeFill(steps(), 2, side, r[0], r[1], r[2], r[3], 5); !onlyPoolCode(got, impl.ErrRange) {
				t.Errorf("side %d, %v: got %+v", side, r, got)
			}
			for _, tile := range wrongTiles() {
				if got := impl.NodeFill(steps(), 2, side, r[0], r[1], r[2], r[3], tile); !onlyPoolCode(got, impl.ErrForm) {
					t.Errorf("side %d, %v, tile %d: got %+v", side, r, tile, got)
				}
			}
		}
		for _, tile := range wrongTiles() {
			if got := impl.NodeFill(steps(), 2, side, 0, 0, 1, side, tile); !onlyPoolCode(got, impl.ErrForm) {
				t.Errorf("side %d, tile %d: got %+v", side, tile, got)
			}
		}
	}
}

// checkPoolMemory asks whether what a call makes of a Pool shares memory with it, or with an earlier answer.
func checkPoolMemory(t *testing.T, of string, p impl.Pool, call func(p impl.Pool) impl.Pool) {
	t.Helper()
	nodes, room := inRoom(p.Nodes, leaf(55))
	before := slices.Clone(room)
	first, again := call(impl.Pool{Nodes: nodes}), call(impl.Pool{Nodes: nodes})
	want := copyPool(again)
	if !slices.Equal(room, before) {
		t.Errorf("%s: what was handed in is turned", of)
	}
	for i := range first.Nodes[:cap(first.Nodes)] {
		first.Nodes[:cap(first.Nodes)][i] = leaf(77)
	}
	if !slices.Equal(room, before) {
		t.Errorf("%s: the answer shares memory with what was handed in", of)
	}
	for i := range room {
		room[i] = leaf(66)
	}
	if len(want.Nodes) == 0 || !likePool(again, want) {
		t.Errorf("%s: the other answer is %+v now, it was %+v", of, again, want)
	}
}

func TestNodeFillIsNewMemory(t *testing.T) {
	for _, tile := range []int64{0, 5, 8} {
		checkPoolMemory(t, "NodeFill", steps(), func(p impl.Pool) impl.Pool {
			return impl.NodeFill(p, 3, 2, 0, 0, 1, 1, tile).Pool
		})
	}
}
