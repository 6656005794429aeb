package tests

import (
	"math"
	"testing"

	"loop.example/g00635/impl"
)

func TestNodeCountByHand(t *testing.T) {
	p := poolOf(leaf(0), leaf(5), leaf(9), split(0, 0, 1, 0), split(3, 1, 0, 3), split(4, 0, 2, 0))
	for _, c := range []struct {
		node, side int64
		want       map[int64]int64
	}{
		{0, 1, map[int64]int64{0: 1}},
		{1, 8, map[int64]int64{5: 64}},
		{3, 2, map[int64]int64{0: 3, 5: 1}},
		{3, 8, map[int64]int64{0: 48, 5: 16}},
		{4, 4, map[int64]int64{0: 10, 5: 6}},
		{5, 8, map[int64]int64{0: 10 + 32, 5: 6, 9: 16}},
	} {
		for _, tile := range append(wrongTiles(), rightTiles()...) {
			if got := impl.NodeCount(p, c.node, c.side, tile); got != c.want[tile] {
				t.Errorf("node %d, side %d: of tile %d are %d, want %d", c.node, c.side, tile, got, c.want[tile])
			}
		}
	}
}

func TestNodeCountLikeModel(t *testing.T) {
	for name, p := range treePools() {
		before := copyPool(p)
		for _, side := range rightSides() {
			for _, node := range append(someNodes(p), noNodes(p)...) {
				for _, tile := range append(wrongTiles(), rightTiles()...) {
					want := modelNodeCount(p, node, side, tile)
					if got := impl.NodeCount(p, node, side, tile); got != want {
						t.Fatalf("%s: node %d, side %d, tile %d: got %d, want %d", name, node, side, tile, got, want)
					}
				}
			}
		}
		if !likePool(p, before) {
			t.Errorf("%s: is turned", name)
		}
	}
}

func TestNodeCountOfNone(t *testing.T) {
	for name, f := range poolFaults() {
		for _, tile := range []int64{0, 1, 5, 9, 10, -1, math.MinInt64} {
			if got := impl.NodeCount(f.p, f.root, f.side, tile); got != 0 {
				t.Errorf("%s: of tile %d are %d", name, tile, got)
			}
		}
	}
}
