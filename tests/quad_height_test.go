package tests

import (
	"math"
	"testing"

	"loop.example/g00635/impl"
)

// noNodes are numbers of which there is no node in p.
func noNodes(p impl.Pool) []int64 {
	size := int64(len(p.Nodes))
	return []int64{-1, -2, -size - 1, size, size + 1, 1 << 32, math.MinInt64, math.MaxInt64}
}

func TestHeightAndWeightByHand(t *testing.T) {
	p := poolOf(
		leaf(0), leaf(1), leaf(5),
		split(0, 0, 0, 1),
		split(2, 2, 2, 0),
		split(3, 4, 3, 4),
		split(3, 3, 3, 3),
		split(5, 0, 0, 0), split(0, 5, 0, 0), split(0, 0, 5, 0), split(0, 0, 0, 5),
		split(2, 1, 3, 7),
		leaf(9),
	)
	for node, want := range [][2]int64{
		{0, 1}, {0, 1}, {0, 1},
		{1, 3}, {1, 3}, {2, 6}, {2, 4},
		{3, 7}, {3, 7}, {3, 7}, {3, 7},
		{4, 8}, {0, 1},
	} {
		if got := impl.Height(p, int64(node)); got != want[0] {
			t.Errorf("Height of %d is %d, want %d", node, got, want[0])
		}
		if got := impl.Weight(p, int64(node)); got != want[1] {
			t.Errorf("Weight of %d is %d, want %d", node, got, want[1])
		}
	}
}

// Whoever went down each way anew would not come to an end here.
func TestHeightAndWeightOfTower(t *testing.T) {
	p := tower(impl.MaxPool)
	for node := range int64(impl.MaxPool) {
		height, weight := max(0, node-1), node+1
		if node == 1 {
			weight = 1
		}
		if got := impl.Height(p, node); got != height {
			t.Errorf("Height of %d is %d", node, got)
		}
		if got := impl.Weight(p, node); got != weight {
			t.Errorf("Weight of %d is %d", node, got)
		}
	}
}

func TestHeightAndWeightOfWidePool(t *testing.T) {
	p := widePool(impl.MaxPool)
	for node, n := range p.Nodes {
		height, weight := int64(0), int64(1)
		if n.Tile == -1 {
			height = 1
			below := map[int64]bool{n.A: true, n.B: true, n.C: true, n.D: true}
			weight += int64(len(below))
		}
		if got := impl.Height(p, int64(node)); got != height {
			t.Errorf("Height of %+v is %d", n, got)
		}
		if got := impl.Weight(p, int64(node)); got != weight {
			t.Errorf("Weight of %+v is %d, want %d", n, got, weight)
		}
	}
}

func TestHeightAndWeightOfNone(t *testing.T) {
	for name, p := range somePools() {
		before := copyPool(p)
		for _, node := range noNodes(p) {
			if got := impl.Height(p, node); got != -1 {
				t.Errorf("%s: Height of %d is %d", name, node, got)
			}
			if got := impl.Weight(p, node); got != 0 {
				t.Errorf("%s: Weight of %d is %d", name, node, got)
			}
		}
		if len(p.Nodes) > 0 && (impl.Height(p, 0) != 0 || impl.Weight(p, 0) != 1) {
			t.Errorf("%s: the first node is no leaf", name)
		}
		if !likePool(p, before) {
			t.Errorf("%s: is turned", name)
		}
	}
}

func TestHeightAndWeightOfWrongPools(t *testing.T) {
	for name, p := range wrongPools() {
		for _, node := range append(noNodes(p), 0, 1, 2, 3) {
			if got := impl.Height(p, node); got != -1 {
				t.Errorf("%s: Height of %d is %d", name, node, got)
			}
			if got := impl.Weight(p, node); got != 0 {
				t.Errorf("%s: Weight of %d is %d", name, node, got)
			}
		}
	}
}
