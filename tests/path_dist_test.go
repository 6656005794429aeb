package tests

import (
	"testing"

	"loop.example/g00635/impl"
)

func TestDistByHand(t *testing.T) {
	g := gridOf("0900\n0900\n0000\n0020\n")
	for _, c := range []struct {
		a, b impl.Place
		want int64
	}{
		{impl.Place{}, impl.Place{}, 0},
		{impl.Place{X: 2, Y: 3}, impl.Place{X: 2, Y: 3}, 0},
		{impl.Place{}, impl.Place{X: 2}, 6},
		{impl.Place{X: 2}, impl.Place{}, 6},
		{impl.Place{X: 2, Y: 2}, impl.Place{X: 2, Y: 3}, 3},
		{impl.Place{X: 1, Y: 3}, impl.Place{X: 3, Y: 3}, 4},
		{impl.Place{X: 1}, impl.Place{}, impl.NoWay},
		{impl.Place{}, impl.Place{X: 1}, impl.NoWay},
		{impl.Place{X: 1}, impl.Place{X: 1}, impl.NoWay},
		{impl.Place{X: 1}, impl.Place{X: 1, Y: 1}, impl.NoWay},
	} {
		if got := impl.Dist(g, c.a, c.b); got != c.want {
			t.Errorf("%+v to %+v: got %d, want %d", c.a, c.b, got, c.want)
		}
	}
}

// The number that Dists has, both ways the same, and NoWay with a Wall on either end.
func TestDistIsThatOfDists(t *testing.T) {
	for _, side := range rightSides() {
		for _, g := range wayGrids(side) {
			for _, a := range allPlaces(side) {
				dists := impl.Dists(g, a)
				for at, b := range allPlaces(side) {
					want := int64(impl.NoWay)
					if len(dists) != 0 {
						want = dists[at]
					}
					there, back := impl.Dist(g, a, b), impl.Dist(g, b, a)
					if there != want || back != want {
						t.Fatalf("%q, %+v and %+v: got %d and %d, want %d", impl.GridText(g), a, b, there, back, want)
					}
				}
			}
		}
	}
}

func TestDistFromBeyond(t *testing.T) {
	for _, side := range rightSides() {
		for _, g := range []impl.Grid{impl.GridNew(side, 0).Grid, impl.GridNew(side, impl.Wall).Grid, mixed(side, 1)} {
			for _, far := range placesBeyond(side) {
				for _, p := range append(allPlaces(side), far, impl.Place{X: -1, Y: -1}) {
					if got := [2]int64{impl.Dist(g, p, far), impl.Dist(g, far, p)}; got != [2]int64{impl.NoWay, impl.NoWay} {
						t.Errorf("side %d, %+v and %+v: got %v", side, p, far, got)
					}
				}
			}
		}
	}
}

func TestDistWrongGrids(t *testing.T) {
	for name, g := range wrongGrids() {
		for _, a := range append(allPlaces(2), impl.Place{X: -1}, impl.Place{Y: 16}) {
			for _, b := range []impl.Place{{}, a, {X: 1}, {Y: 4}} {
				if got := impl.Dist(g, a, b); got != impl.NoWay {
					t.Errorf("%s, %+v to %+v: got %d", name, a, b, got)
				}
			}
		}
	}
}
