package tests

import (
	"testing"

	"loop.example/g00635/impl"
)

// promiseGrids are more than wayGrids where a Grid has few places.
func promiseGrids(side int64) []impl.Grid {
	out := wayGrids(side)
	if side < 8 {
		out = append(out, someGrids(side)...)
		for seed := range int64(40) {
			out = append(out, scattered(side, 100+seed))
		}
	}
	return out
}

// Promise 7: a way goes step by step, and costs what its steps cost.
func TestWaysGoStepByStep(t *testing.T) {
	for _, side := range rightSides() {
		for _, g := range promiseGrids(side) {
			for _, a := range allPlaces(side) {
				for _, b := range allPlaces(side) {
					checkWay(t, g, a, b)
				}
			}
		}
	}
}

func checkWay(t *testing.T, g impl.Grid, a impl.Place, b impl.Place) {
	t.Helper()
	way, far := impl.WayOf(g, a, b), impl.Dist(g, a, b)
	if far == impl.NoWay {
		if !onlyWayCode(way, impl.ErrNone) {
			t.Fatalf("%q, %+v to %+v: got %+v", impl.GridText(g), a, b, way)
		}
		return
	}
	if way.Code != impl.OK || len(way.Places) == 0 || way.Places[0] != a || way.Places[len(way.Places)-1] != b {
		t.Fatalf("%q, %+v to %+v: got %+v", impl.GridText(g), a, b, way)
	}
	var sum int64
	for i, p := range way.Places[1:] {
		cost, there := stepCost(g, way.Places[i], p)
		if !there {
			t.Fatalf("%q, %+v to %+v: no step leads to %+v: %+v", impl.GridText(g), a, b, p, way)
		}
		sum += cost
	}
	if way.Cost != sum || way.Cost != far {
		t.Fatalf("%q, %+v to %+v: Cost %d, its steps %d, Dist %d", impl.GridText(g), a, b, way.Cost, sum, far)
	}
}

// Promise 7: none is shorter. If no step leads nearer than Dists says, no way of several steps does.
func TestNoStepLeadsNearer(t *testing.T) {
	for _, side := range rightSides() {
		for _, g := range promiseGrids(side) {
			for _, from := range openPlaces(g) {
				checkNoneNearer(t, g, from)
			}
		}
	}
}

func checkNoneNearer(t *testing.T, g impl.Grid, from impl.Place) {
	t.Helper()
	dists := impl.Dists(g, from)
	if dists[from.Y*g.Side+from.X] != 0 {
		t.Fatalf("%q: from %+v to itself: %v", impl.GridText(g), from, dists)
	}
	for i, far := range dists {
		for j, other := range dists {
			cost, there := stepCost(g, placeOf(g.Side, int64(i)), placeOf(g.Side, int64(j)))
			if there && far != impl.NoWay && (other == impl.NoWay || far+cost < other) {
				t.Fatalf("%q from %+v: a step from place %d leads nearer to %d: %v", impl.GridText(g), from, i, j, dists)
			}
		}
	}
}

// Promise 8: what the tables say of two places is never more than it is.
func TestBoundIsNeverMore(t *testing.T) {
	for _, side := range []int64{1, 2, 4} {
		for _, g := range promiseGrids(side) {
			for _, marks := range markLists(g) {
				checkBound(t, g, marks)
			}
		}
	}
	for _, g := range []impl.Grid{snake(), mixed(8, 3), scattered(8, 1)} {
		checkBound(t, g, openPlaces(g)[7:11])
	}
}

func checkBound(t *testing.T, g impl.Grid, marks []impl.Place) {
	t.Helper()
	tables := impl.Bake(g, marks)
	for _, a := range allPlaces(g.Side) {
		for _, b := range allPlaces(g.Side) {
			bound, far := impl.Bound(g, tables, a, b), impl.Dist(g, a, b)
			if far != impl.NoWay && (bound > far || bound < 0) {
				t.Fatalf("%q, marks %+v, %+v to %+v: Bound %d, Dist %d", impl.GridText(g), marks, a, b, bound, far)
			}
		}
	}
}

// Promise 8: of a mark and a place it is just Dist, both ways round, also where there is no way.
func TestBoundOfAMarkIsDist(t *testing.T) {
	for _, side := range rightSides() {
		for _, g := range wayGrids(side) {
			for _, marks := range markLists(g) {
				tables := impl.Bake(g, marks)
				for _, mark := range marks {
					for _, p := range allPlaces(side) {
						there, back, far := impl.Bound(g, tables, mark, p), impl.Bound(g, tables, p, mark), impl.Dist(g, mark, p)
						if there != far || back != far {
							t.Fatalf("%q, marks %+v, %+v and %+v: Bound %d and %d, Dist %d", impl.GridText(g), marks, mark, p, there, back, far)
						}
					}
				}
			}
		}
	}
}
