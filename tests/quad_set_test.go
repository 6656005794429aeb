package tests

import (
	"math"
	"slices"
	"testing"

	"loop.example/g00635/impl"
)

func TestPoolSetByHand(t *testing.T) {
	p := poolOf(leaf(0), leaf(5), split(1, 0, 0, 0))
	for _, c := range []struct {
		name             string
		root, side, x, y int64
		tile             int64
		more             []impl.Node
		want             int64
	}{
		{"there already", 2, 2, 0, 0, 5, nil, 2},
		{"there already, side 8", 2, 8, 7, 7, 0, nil, 2},
		{"a leaf's own tile", 1, 4, 3, 2, 5, nil, 1},
		{"all one tile then", 2, 2, 0, 0, 0, nil, 0},
		{"the only tile", 0, 1, 0, 0, 5, nil, 1},
		{"the only tile, new", 0, 1, 0, 0, 9, []impl.Node{leaf(9)}, 3},
		{"a leaf is split", 0, 2, 1, 0, 5, []impl.Node{split(0, 1, 0, 0)}, 3},
		{"a node that was there comes of it", 0, 2, 0, 0, 5, nil, 2},
		{"a leaf is split twice", 0, 4, 0, 0, 5, []impl.Node{split(2, 0, 0, 0)}, 3},
		{"an other tile", 2, 4, 3, 3, 7, []impl.Node{leaf(7), split(0, 0, 0, 3), split(1, 0, 0, 4)}, 5},
	} {
		got := impl.PoolSet(p, c.root, c.side, c.x, c.y, c.tile)
		if got.Code != impl.OK || got.Root != c.want || !slices.Equal(got.Pool.Nodes, slices.Concat(p.Nodes, c.more)) {
			t.Errorf("%s: got %+v", c.name, got)
		}
	}
}

func TestPoolSetEachPlace(t *testing.T) {
	p := steps()
	before := copyPool(p)
	for node, least := range []int64{1, 1, 1, 2, 4, 8} {
		for side := least; side <= 8; side *= 2 {
			for at := range side * side {
				for _, tile := range rightTiles() {
					g := impl.PoolGet(p, int64(node), side).Grid
					g.Tiles[at] = tile
					nodes, root := modelPut(slices.Clone(p.Nodes), g, 0, 0, side)
					got := impl.PoolSet(p, int64(node), side, at%side, at/side, tile)
					if got.Code != impl.OK || got.Root != root || !slices.Equal(got.Pool.Nodes, nodes) {
						t.Fatalf("node %d, side %d, %d at %d: got %+v", node, side, tile, at, got)
					}
				}
			}
		}
	}
	if !likePool(p, before) {
		t.Error("what was handed in is turned")
	}
}

func TestPoolSetFaults(t *testing.T) {
	for name, f := range poolFaults() {
		for _, at := range []int64{0, -1, 8, math.MinInt64, math.MaxInt64} {
			for _, tile := range []int64{0, 9, -1, 10, math.MaxInt64} {
				if got := impl.PoolSet(f.p, f.root, f.side, at, at, tile); !onlyPoolCode(got, f.code) {
					t.Errorf("%s at %d, tile %d: got %+v, want code %d", name, at, tile, got, f.code)
				}
			}
		}
	}
}

func TestPoolSetRangeAheadOfForm(t *testing.T) {
	for _, side := range rightSides() {
		for _, tile := range append(wrongTiles(), 0, 9) {
			for _, far := range beyond(side) {
				for _, c := range [][2]int64{{far, 0}, {0, far}, {far, side - 1}, {side - 1, far}, {far, far}} {
					if got := impl.PoolSet(steps(), 2, side, c[0], c[1], tile); !onlyPoolCode(got, impl.ErrRange) {
						t.Errorf("side %d at %v, tile %d: got %+v", side, c, tile, got)
					}
				}
			}
		}
		for _, tile := range wrongTiles() {
			if got := impl.PoolSet(steps(), 2, side, side-1, 0, tile); !onlyPoolCode(got, impl.ErrForm) {
				t.Errorf("side %d, tile %d: got %+v", side, tile, got)
			}
		}
	}
}

func TestPoolSetFull(t *testing.T) {
	p := tower(impl.MaxPool)
	for _, c := range []struct {
		name                   string
		root, side, x, y, tile int64
		code, want             int64
	}{
		{"a tile that is there", 2, 2, 1, 1, 1, impl.OK, 2},
		{"all one tile then", 2, 2, 1, 1, 0, impl.OK, 0},
		{"a node that is there", 0, 2, 1, 1, 1, impl.OK, 2},
		{"a tile that is new", 0, 1, 0, 0, 2, impl.ErrFull, 0},
		{"a split that is new", 0, 2, 0, 0, 1, impl.ErrFull, 0},
		{"no place", 0, 2, 2, 0, 2, impl.ErrRange, 0},
		{"no tile", 0, 2, 0, 0, 10, impl.ErrForm, 0},
	} {
		got := impl.PoolSet(p, c.root, c.side, c.x, c.y, c.tile)
		if c.code != impl.OK {
			if !onlyPoolCode(got, c.code) {
				t.Errorf("%s: code %d, root %d, %d nodes", c.name, got.Code, got.Root, len(got.Pool.Nodes))
			}
		} else if got.Code != impl.OK || got.Root != c.want || !likePool(got.Pool, p) {
			t.Errorf("%s: code %d, root %d, %d nodes", c.name, got.Code, got.Root, len(got.Pool.Nodes))
		}
	}
	if got := impl.PoolSet(tower(impl.MaxPool-1), 0, 2, 0, 0, 1); got.Code != impl.OK || got.Root != impl.MaxPool-1 {
		t.Errorf("just full: code %d, root %d", got.Code, got.Root)
	}
}

func TestPoolSetIsNewMemory(t *testing.T) {
	for _, tile := range []int64{0, 5, 9} {
		p := steps()
		before := copyPool(p)
		out := impl.PoolSet(p, 3, 2, 0, 0, tile)
		whole := copyPool(impl.PoolSet(p, 3, 2, 0, 0, tile).Pool)
		for i := range p.Nodes {
			p.Nodes[i] = leaf(66)
		}
		if !likePool(out.Pool, whole) {
			t.Errorf("tile %d: what was handed in shares memory with the answer", tile)
		}
		copy(p.Nodes, before.Nodes)
		for i := range out.Pool.Nodes {
			out.Pool.Nodes[i] = leaf(77)
		}
		if !likePool(p, before) {
			t.Errorf("tile %d: the answer shares memory with what was handed in", tile)
		}
	}
}
