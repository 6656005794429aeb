package tests

import (
	"math/rand"
	"testing"

	"loop.example/g00635/impl"
)

// drawnGrid is a right map of tiles that are drawn each for itself.
func drawnGrid(r *rand.Rand, side int64) impl.Grid {
	g := impl.Grid{Side: side}
	for range side * side {
		g.Tiles = append(g.Tiles, r.Int63n(10))
	}
	return g
}

// Promise 18: what was cut out and is put back changes nothing, holes or none.
func TestCutOutAndPutBackChangesNothing(t *testing.T) {
	r := rand.New(rand.NewSource(18))
	for _, side := range rightSides() {
		for range 300 {
			g := drawnGrid(r, side)
			x, y := r.Int63n(side), r.Int63n(side)
			cut := impl.StampOf(g, x, y, 1+r.Int63n(side-x), 1+r.Int63n(side-y))
			if cut.Code != impl.OK || !impl.StampRight(cut.Stamp) {
				t.Fatalf("%+v at %d %d: cut out %+v", g, x, y, cut)
			}
			for _, s := range []impl.Stamp{cut.Stamp, impl.StampHole(cut.Stamp, r.Int63n(10))} {
				if got := impl.StampPut(g, s, x, y); got.Code != impl.OK || !likeGrid(got.Grid, g) {
					t.Fatalf("%+v: put back at %d %d: %+v", g, x, y, got)
				}
			}
		}
	}
}

// What is put stands there, where it is no hole and in the map, and nothing else is turned.
func TestWhatIsPutStandsThere(t *testing.T) {
	r := rand.New(rand.NewSource(19))
	for _, side := range rightSides() {
		for range 500 {
			g, s := drawnGrid(r, side), drawnStamp(r, 1+r.Int63n(8), 1+r.Int63n(8), r.Intn(101))
			x, y := r.Int63n(17)-8, r.Int63n(17)-8
			got := impl.StampPut(g, s, x, y)
			if got.Code != impl.OK || !impl.GridRight(got.Grid) || got.Grid.Side != side {
				t.Fatalf("%+v at %d %d of %+v: got %+v", s, x, y, g, got)
			}
			for at := range side * side {
				placeX, placeY := at%side, at/side
				want := stampTile(s, x, y, placeX, placeY)
				if want == -1 {
					want = impl.TileAt(g, placeX, placeY)
				}
				if is := impl.TileAt(got.Grid, placeX, placeY); is != want {
					t.Fatalf("%+v at %d %d of %+v: at %d %d is %d, want %d", s, x, y, g, placeX, placeY, is, want)
				}
			}
		}
	}
}

// What is cut out again is what was put, but for its holes, where the map is seen.
func TestCutOutAgainIsWhatWasPut(t *testing.T) {
	r := rand.New(rand.NewSource(20))
	for _, side := range rightSides() {
		for range 300 {
			g := drawnGrid(r, side)
			x, y := r.Int63n(side), r.Int63n(side)
			s := drawnStamp(r, 1+r.Int63n(side-x), 1+r.Int63n(side-y), r.Intn(101))
			was := impl.StampOf(g, x, y, s.W, s.H).Stamp
			got := impl.StampOf(impl.StampPut(g, s, x, y).Grid, x, y, s.W, s.H)
			if got.Code != impl.OK || got.Stamp.W != s.W || got.Stamp.H != s.H || len(got.Stamp.Tiles) != len(s.Tiles) {
				t.Fatalf("%+v at %d %d: cut out %+v", s, x, y, got)
			}
			for i, tile := range s.Tiles {
				if tile == -1 {
					tile = was.Tiles[i]
				}
				if got.Stamp.Tiles[i] != tile {
					t.Fatalf("%+v at %d %d: cut out %+v", s, x, y, got)
				}
			}
		}
	}
}

// Four quarters are none; one, and then three, is what it was; two quarters one by one are two.
func TestQuartersOfStampsGoRound(t *testing.T) {
	eachStamp(func(s impl.Stamp) {
		for one := range int64(4) {
			for other := range int64(4) {
				got := impl.StampTurn(impl.StampTurn(s, one).Stamp, other)
				if want := impl.StampTurn(s, (one+other)%4).Stamp; !rightStampOut(got, want) {
					t.Fatalf("%+v by %d and %d: got %+v, want %+v", s, one, other, got, want)
				}
			}
		}
		round := s
		for range 4 {
			round = impl.StampTurn(round, 1).Stamp
		}
		if !likeStamp(round, s) {
			t.Fatalf("%+v: four quarters are %+v", s, round)
		}
	})
}

// Promise 18: a stamp comes back from its text.
func TestStampsComeBackFromText(t *testing.T) {
	eachStamp(func(s impl.Stamp) {
		text := impl.StampText(s)
		if got := impl.StampRead(text); !rightStampOut(got, s) {
			t.Fatalf("%+v: of %q came %+v", s, text, got)
		}
	})
}
