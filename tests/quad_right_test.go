package tests

import (
	"math"
	"slices"
	"testing"

	"loop.example/g00635/impl"
)

func leaf(tile int64) impl.Node {
	return impl.Node{Tile: tile}
}

func split(a, b, c, d int64) impl.Node {
	return impl.Node{Tile: -1, A: a, B: b, C: c, D: d}
}

func poolOf(nodes ...impl.Node) impl.Pool {
	return impl.Pool{Nodes: nodes}
}

func copyPool(p impl.Pool) impl.Pool {
	return impl.Pool{Nodes: slices.Clone(p.Nodes)}
}

func likePool(a impl.Pool, b impl.Pool) bool {
	return slices.Equal(a.Nodes, b.Nodes)
}

// widePool has the ten leaves, and behind them splits of leaves: all of it low.
func widePool(size int) impl.Pool {
	var p impl.Pool
	for tile := range int64(10) {
		p.Nodes = append(p.Nodes, leaf(tile))
	}
	for n := int64(1); len(p.Nodes) < size; n++ {
		// Of 1111, 2222 and so on all quarters were one leaf.
		if n%1111 != 0 {
			p.Nodes = append(p.Nodes, split(n/1000%10, n/100%10, n/10%10, n%10))
		}
	}
	return impl.Pool{Nodes: p.Nodes[:size]}
}

// tower is one split upon the other: all four quarters of each are the one below it, so that ways down are 4 to the height.
func tower(size int) impl.Pool {
	p := poolOf(leaf(0), leaf(1), split(0, 0, 0, 1))
	for at := int64(2); len(p.Nodes) < size; at++ {
		p.Nodes = append(p.Nodes, split(at, at, at, at))
	}
	return impl.Pool{Nodes: p.Nodes[:size]}
}

func wrongPools() map[string]impl.Pool {
	l0, l1, s := leaf(0), leaf(1), split(0, 0, 0, 1)
	return map[string]impl.Pool{
		"leaf of 10":             poolOf(leaf(10)),
		"leaf of -2":             poolOf(leaf(-2)),
		"leaf of the greatest":   poolOf(leaf(math.MaxInt64)),
		"leaf of the least":      poolOf(leaf(math.MinInt64)),
		"leaf with A":            poolOf(l0, impl.Node{Tile: 1, A: 1}),
		"leaf with B":            poolOf(l0, impl.Node{Tile: 1, B: 1}),
		"leaf with C":            poolOf(l0, impl.Node{Tile: 1, C: -1}),
		"leaf with D":            poolOf(l0, impl.Node{Tile: 1, D: 1}),
		"split with none ahead":  poolOf(split(0, 0, 0, 0)),
		"split of itself":        poolOf(l0, l1, split(0, 0, 0, 2)),
		"split of one behind":    poolOf(l0, l1, split(0, 0, 0, 3), leaf(2)),
		"split of -1":            poolOf(l0, l1, split(-1, 0, 0, 1)),
		"split far beyond":       poolOf(l0, l1, split(0, math.MaxInt64, 0, 1)),
		"split far below":        poolOf(l0, l1, split(0, 1, math.MinInt64, 0)),
		"split of one leaf":      poolOf(l0, split(0, 0, 0, 0)),
		"split of another leaf":  poolOf(l0, l1, s, split(1, 1, 1, 1)),
		"two leaves alike":       poolOf(l0, l1, l0),
		"two splits alike":       poolOf(l0, l1, s, s),
		"wrong node at the end":  poolOf(l0, l1, s, leaf(10)),
		"wrong node at first":    poolOf(leaf(10), l0, l1, split(1, 1, 1, 2)),
		"one too many, wide":     widePool(impl.MaxPool + 1),
		"one too many, high":     tower(impl.MaxPool + 1),
		"many more than MaxPool": widePool(5000),
	}
}

// somePools are right ones, the empty one among them.
func somePools() map[string]impl.Pool {
	return map[string]impl.Pool{
		"empty":          {},
		"empty list":     poolOf([]impl.Node{}...),
		"one leaf":       poolOf(leaf(9)),
		"leaves":         poolOf(leaf(9), leaf(0), leaf(4)),
		"one split":      poolOf(leaf(0), leaf(5), split(1, 0, 0, 0)),
		"split of split": poolOf(leaf(3), leaf(7), split(0, 1, 1, 0), split(2, 2, 2, 2)),
		"wide":           widePool(100),
		"high":           tower(60),
		"full and wide":  widePool(impl.MaxPool),
		"full and high":  tower(impl.MaxPool),
	}
}

func TestPoolLimit(t *testing.T) {
	if impl.MaxPool != 200 {
		t.Errorf("MaxPool is %d", impl.MaxPool)
	}
}

func TestPoolRight(t *testing.T) {
	for name, p := range somePools() {
		before := copyPool(p)
		if !impl.PoolRight(p) {
			t.Errorf("%s: is not right", name)
		}
		if !likePool(p, before) {
			t.Errorf("%s: is turned", name)
		}
	}
	for name, p := range wrongPools() {
		if impl.PoolRight(p) {
			t.Errorf("%s: is right", name)
		}
	}
}

func TestPoolRightLeaves(t *testing.T) {
	for _, tile := range rightTiles() {
		if !impl.PoolRight(poolOf(leaf(tile))) {
			t.Errorf("leaf of %d is not right", tile)
		}
		for _, n := range []int64{1, -1, math.MaxInt64, math.MinInt64} {
			for _, bad := range []impl.Node{{Tile: tile, A: n}, {Tile: tile, B: n}, {Tile: tile, C: n}, {Tile: tile, D: n}} {
				if impl.PoolRight(poolOf(bad)) {
					t.Errorf("leaf %+v is right", bad)
				}
			}
		}
	}
	for _, tile := range wrongTiles() {
		if impl.PoolRight(poolOf(leaf(tile))) {
			t.Errorf("leaf of %d is right", tile)
		}
	}
}

func TestPoolRightSizes(t *testing.T) {
	for size := range impl.MaxPool + 20 {
		want := size <= impl.MaxPool
		if got := impl.PoolRight(widePool(size)); got != want {
			t.Errorf("wide, of %d: got %v", size, got)
		}
		if got := impl.PoolRight(tower(size)); got != want {
			t.Errorf("high, of %d: got %v", size, got)
		}
	}
}

// lastRight says of the last node what the document says, word by word.
func lastRight(nodes []impl.Node) bool {
	at := int64(len(nodes) - 1)
	n := nodes[at]
	if slices.Contains(nodes[:at], n) {
		return false
	}
	if n.Tile >= 0 && n.Tile <= 9 {
		return n.A == 0 && n.B == 0 && n.C == 0 && n.D == 0
	}
	if n.Tile != -1 {
		return false
	}
	for _, q := range []int64{n.A, n.B, n.C, n.D} {
		if q < 0 || q >= at {
			return false
		}
	}
	return n.A != n.B || n.B != n.C || n.C != n.D || nodes[n.A].Tile == -1
}

// Each node of a great many, behind two leaves and a split, makes the Pool right or not.
func TestPoolRightEachNodeBehindOthers(t *testing.T) {
	numbers := []int64{-1, 0, 1, 2, 3, 4, math.MaxInt64, math.MinInt64}
	for _, tile := range []int64{-2, -1, 0, 5, 9, 10, math.MaxInt64, math.MinInt64} {
		for _, a := range numbers {
			for _, b := range numbers {
				for _, c := range numbers {
					for _, d := range numbers {
						p := poolOf(leaf(0), leaf(9), split(0, 0, 0, 1), impl.Node{Tile: tile, A: a, B: b, C: c, D: d})
						if got := impl.PoolRight(p); got != lastRight(p.Nodes) {
							t.Fatalf("%+v behind three: got %v", p.Nodes[3], got)
						}
					}
				}
			}
		}
	}
}

func TestPoolRightAlikeAnywhere(t *testing.T) {
	for first := range int64(10) {
		p := widePool(60)
		p.Nodes = append(p.Nodes, p.Nodes[first*6])
		if impl.PoolRight(p) {
			t.Errorf("node %d stands twice, and it is right", first*6)
		}
	}
}
