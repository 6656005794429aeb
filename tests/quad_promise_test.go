package tests

import (
	"testing"

	"loop.example/g00635/impl"
)

// Promise 4: a map that is put into a pool is got again; put again nothing is new.
func TestPutIsGotAgain(t *testing.T) {
	for name, p := range somePools() {
		for _, side := range rightSides() {
			for _, g := range someGrids(side) {
				checkGotAgain(t, name, p, g)
			}
		}
	}
}

func checkGotAgain(t *testing.T, name string, p impl.Pool, g impl.Grid) {
	t.Helper()
	put := impl.PoolPut(p, g)
	if put.Code == impl.ErrFull && len(p.Nodes) > 100 {
		return
	}
	got := impl.PoolGet(put.Pool, put.Root, g.Side)
	if put.Code != impl.OK || got.Code != impl.OK || !impl.SameGrid(got.Grid, g) {
		t.Fatalf("%s: of %q came %q, codes %d and %d", name, impl.GridText(g), impl.GridText(got.Grid), put.Code, got.Code)
	}
	for at, tile := range g.Tiles {
		if x, y := int64(at)%g.Side, int64(at)/g.Side; impl.PoolAt(put.Pool, put.Root, g.Side, x, y) != tile {
			t.Fatalf("%s: %q has another tile at %d, %d", name, impl.GridText(g), x, y)
		}
	}
	again := impl.PoolPut(put.Pool, g)
	if again.Code != impl.OK || again.Root != put.Root || !likePool(again.Pool, put.Pool) {
		t.Fatalf("%s: put again, %q has root %d, %d nodes; it had root %d, %d nodes", name, impl.GridText(g), again.Root, len(again.Pool.Nodes), put.Root, len(put.Pool.Nodes))
	}
	if !impl.PoolRight(put.Pool) || impl.Weight(put.Pool, put.Root) > int64(len(put.Pool.Nodes)) {
		t.Fatalf("%s: with %q the Pool is not right", name, impl.GridText(g))
	}
}

// What was put earlier is got again behind all that was put since.
func TestAllThatWasPutIsGotAgain(t *testing.T) {
	for _, side := range rightSides() {
		p := poolOf(leaf(8), leaf(3), split(0, 1, 0, 1))
		var kept []impl.Grid
		var roots []int64
		for _, g := range someGrids(side) {
			put := impl.PoolPut(p, g)
			if put.Code == impl.OK {
				p, kept, roots = put.Pool, append(kept, g), append(roots, put.Root)
			}
		}
		if len(kept) < 3 {
			t.Fatalf("side %d: just %d are kept", side, len(kept))
		}
		for i, g := range kept {
			if got := impl.PoolGet(p, roots[i], side); got.Code != impl.OK || !impl.SameGrid(got.Grid, g) {
				t.Errorf("side %d: of %q came %+v", side, impl.GridText(g), got)
			}
			for j, other := range kept {
				if (roots[i] == roots[j]) != impl.SameGrid(g, other) {
					t.Errorf("side %d: %q has root %d, %q has root %d", side, impl.GridText(g), roots[i], impl.GridText(other), roots[j])
				}
			}
		}
	}
}

// Promise 4: two maps are alike if and only if they are one node.
func TestOtherInOneTileIsAnotherNode(t *testing.T) {
	for _, side := range rightSides() {
		for _, g := range someGrids(side) {
			put := impl.PoolPut(impl.Pool{}, g)
			if same := impl.PoolPut(put.Pool, copyGrid(g)); same.Root != put.Root {
				t.Fatalf("%q is two nodes, %d and %d", impl.GridText(g), put.Root, same.Root)
			}
			for at := range g.Tiles {
				other := copyGrid(g)
				other.Tiles[at] = (other.Tiles[at] + 1) % 10
				got := impl.PoolPut(put.Pool, other)
				if got.Code != impl.OK || got.Root == put.Root {
					t.Fatalf("%q, other at %d, is node %d too, code %d", impl.GridText(g), at, got.Root, got.Code)
				}
				back := impl.PoolSet(got.Pool, got.Root, side, int64(at)%side, int64(at)/side, g.Tiles[at])
				if back.Code != impl.OK || back.Root != put.Root || !likePool(back.Pool, got.Pool) {
					t.Fatalf("%q, set back at %d, is node %d, not %d", impl.GridText(g), at, back.Root, put.Root)
				}
			}
		}
	}
}

// Each two of all maps of side 2 with tiles 0 to 2, put into one Pool.
func TestEachSmallMapIsOneNode(t *testing.T) {
	var p impl.Pool
	owner := map[int64]string{}
	for n := range int64(81) {
		g := impl.Grid{Side: 2, Tiles: []int64{n / 27, n / 9 % 3, n / 3 % 3, n % 3}}
		put := impl.PoolPut(p, g)
		if put.Code != impl.OK {
			t.Fatalf("%v: code %d", g, put.Code)
		}
		if was, there := owner[put.Root]; there {
			t.Errorf("%v and %s are one node", g, was)
		}
		owner[put.Root] = impl.GridText(g)
		p = put.Pool
	}
	if len(p.Nodes) != 81 {
		t.Errorf("81 maps are %d nodes", len(p.Nodes))
	}
}
