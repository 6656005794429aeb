package tests

import (
	"math/rand"
	"slices"
	"testing"

	"loop.example/g00635/impl"
)

// drawnEach calls for Pools into which maps were put, and for Pools that were drawn node by node, of each side.
func drawnEach(t *testing.T, do func(p impl.Pool, roots []int64, side int64)) {
	t.Helper()
	for _, side := range rightSides() {
		for seed := range int64(12) {
			p, roots := drawnMaps(t, seed, side)
			do(p, roots, side)
		}
		for seed := range int64(6) {
			p := drawnPool(100+seed, 60)
			var roots []int64
			for node := range int64(len(p.Nodes)) {
				if impl.PoolGet(p, node, side).Code == impl.OK {
					roots = append(roots, node)
				}
			}
			do(p, roots[:min(len(roots), 14)], side)
		}
	}
}

// Promise 15: two nodes are told apart as their maps are; what is one node is not gone into.
func TestNodesAreToldApartAsMaps(t *testing.T) {
	drawnEach(t, func(p impl.Pool, roots []int64, side int64) {
		for _, a := range roots {
			for _, b := range roots {
				want := impl.DiffOf(impl.PoolGet(p, a, side).Grid, impl.PoolGet(p, b, side).Grid)
				if got := impl.NodeDiff(p, a, b, side); !slices.Equal(got, want) {
					t.Fatalf("nodes %d and %d, side %d: got %+v, want %+v", a, b, side, got, want)
				}
				if (len(want) == 0) != (a == b) {
					t.Fatalf("nodes %d and %d, side %d: other by %+v", a, b, side, want)
				}
				looks := impl.NodeLooks(p, a, b, side)
				if a == b && looks != 1 || looks < 1 || looks > 5*side*side {
					t.Fatalf("nodes %d and %d, side %d: %d looks", a, b, side, looks)
				}
			}
		}
	})
}

// Each pair of one node within saves the looks below it: with a leaf beside it all below would be looked at.
func TestOneNodeIsNotGoneInto(t *testing.T) {
	for _, side := range []int64{2, 4, 8} {
		put := impl.PoolPut(impl.Pool{}, mixed(side, 0))
		for at := range side * side {
			set := impl.PoolSet(put.Pool, put.Root, side, at%side, at/side, (mixed(side, 0).Tiles[at]+1)%10)
			got := impl.NodeLooks(set.Pool, put.Root, set.Root, side)
			if want := map[int64]int64{2: 5, 4: 9, 8: 13}[side]; set.Code != impl.OK || got != want {
				t.Errorf("side %d, other at %d: %d looks, want %d", side, at, got, want)
			}
		}
	}
}

// Promise 15: what is filled by nodes is filled. Promise 16: of each kind of tile there are as many.
func TestFilledByNodesIsFilled(t *testing.T) {
	r := rand.New(rand.NewSource(4))
	drawnEach(t, func(p impl.Pool, roots []int64, side int64) {
		for _, root := range roots {
			x, y, tile := r.Int63n(side), r.Int63n(side), r.Int63n(10)
			w, h := 1+r.Int63n(side-x), 1+r.Int63n(side-y)
			want := impl.Fill(impl.PoolGet(p, root, side).Grid, x, y, w, h, tile)
			put := impl.PoolPut(p, want.Grid)
			got := impl.NodeFill(p, root, side, x, y, w, h, tile)
			if got.Code != put.Code || got.Root != put.Root || !likePool(got.Pool, put.Pool) {
				t.Fatalf("node %d, side %d: got %+v, want %+v", root, side, got, put)
			}
			if got.Code != impl.OK {
				continue
			}
			if is := impl.PoolGet(got.Pool, got.Root, side); !impl.SameGrid(is.Grid, want.Grid) {
				t.Fatalf("node %d, side %d: is %+v, want %+v", root, side, is, want)
			}
			if count := impl.NodeCount(got.Pool, got.Root, side, tile); count < w*h {
				t.Fatalf("node %d, side %d: %d of tile %d", root, side, count, tile)
			}
		}
	})
}

func TestCountsAreAsManyAsPlaces(t *testing.T) {
	drawnEach(t, func(p impl.Pool, roots []int64, side int64) {
		for _, root := range roots {
			var sum int64
			for tile := range int64(10) {
				sum += impl.NodeCount(p, root, side, tile)
			}
			if sum != side*side {
				t.Fatalf("node %d, side %d: %d tiles", root, side, sum)
			}
		}
	})
}

// turnedBack is the how that takes back what each how does: three quarters one, and what mirrors itself.
func turnedBack() []int64 {
	return []int64{0, 3, 2, 1, 4, 5, 6, 7}
}

// Promise 16: what is turned is turned back.
func TestTurnedIsTurnedBack(t *testing.T) {
	for _, side := range rightSides() {
		for _, g := range someGrids(side) {
			for how, back := range turnedBack() {
				if got := impl.Turn(impl.Turn(g, int64(how)).Grid, back); got.Code != impl.OK || !likeGrid(got.Grid, g) {
					t.Fatalf("%q by %d, then by %d: %+v", impl.GridText(g), how, back, got)
				}
			}
			four := g
			for range 4 {
				four = impl.Turn(four, 1).Grid
			}
			if !likeGrid(four, g) {
				t.Fatalf("%q: four quarters are %q", impl.GridText(g), impl.GridText(four))
			}
			for how := int64(1); how < 8; how++ {
				apart := impl.Turn(g, how%4).Grid
				if how >= 4 {
					apart = impl.Turn(impl.Turn(g, 4).Grid, how-4).Grid
				}
				if got := impl.Turn(g, how).Grid; !likeGrid(got, apart) {
					t.Fatalf("%q by %d: %q", impl.GridText(g), how, impl.GridText(got))
				}
			}
		}
	}
}

// Promise 16: of each kind of tile there are as many, and NodeTurn is Turn of the map.
func TestTurnedNodesAreTurnedMaps(t *testing.T) {
	drawnEach(t, func(p impl.Pool, roots []int64, side int64) {
		for _, root := range roots {
			for how, back := range turnedBack() {
				got := impl.NodeTurn(p, root, side, int64(how))
				want := impl.Turn(impl.PoolGet(p, root, side).Grid, int64(how)).Grid
				if got.Code == impl.ErrFull && impl.PoolPut(p, want).Code == impl.ErrFull {
					continue
				}
				if is := impl.PoolGet(got.Pool, got.Root, side); got.Code != impl.OK || !impl.SameGrid(is.Grid, want) {
					t.Fatalf("node %d, side %d by %d: %+v, want %+v", root, side, how, is, want)
				}
				for tile := range int64(10) {
					was, is := impl.NodeCount(p, root, side, tile), impl.NodeCount(got.Pool, got.Root, side, tile)
					if was != is {
						t.Fatalf("node %d, side %d by %d: of tile %d were %d, are %d", root, side, how, tile, was, is)
					}
				}
				if again := impl.NodeTurn(got.Pool, got.Root, side, back); again.Code != impl.OK || again.Root != root || !likePool(again.Pool, got.Pool) {
					t.Fatalf("node %d, side %d by %d, then by %d: root %d, code %d", root, side, how, back, again.Root, again.Code)
				}
			}
		}
	})
}

// Promise 17: of each root the map is what it was; what is left a root needs; swept again nothing goes.
func TestSweptIsWhatRootsNeed(t *testing.T) {
	r := rand.New(rand.NewSource(7))
	drawnEach(t, func(p impl.Pool, roots []int64, side int64) {
		var some []int64
		for _, root := range roots {
			if r.Intn(3) > 0 {
				some = append(some, root)
			}
		}
		r.Shuffle(len(some), func(i, j int) { some[i], some[j] = some[j], some[i] })
		got := checkSweep(t, "drawn", p, some)
		if got.Code != impl.OK || !impl.PoolRight(got.Pool) || len(got.Pool.Nodes) > len(p.Nodes) || len(got.Roots) != len(some) {
			t.Fatalf("roots %v: got %+v", some, got)
		}
		met := map[int64]bool{}
		for i, root := range got.Roots {
			was, is := impl.PoolGet(p, some[i], side), impl.PoolGet(got.Pool, root, side)
			if was.Code != is.Code || !impl.SameGrid(was.Grid, is.Grid) {
				t.Fatalf("root %d, side %d: was %+v, is %+v", some[i], side, was, is)
			}
			if impl.Weight(p, some[i]) != impl.Weight(got.Pool, root) {
				t.Fatalf("root %d: other in weight", some[i])
			}
			modelBelow(got.Pool, root, met)
		}
		if len(met) != len(got.Pool.Nodes) {
			t.Fatalf("roots %v: %d nodes are left, %d are needed", some, len(got.Pool.Nodes), len(met))
		}
		if again := impl.Sweep(got.Pool, got.Roots); !likeSweep(again, got) {
			t.Fatalf("roots %v: swept again %+v, not %+v", some, again, got)
		}
	})
}
