package tests

import (
	"slices"
	"testing"

	"loop.example/g00635/impl"
)

func onlyWayCode(out impl.WayOut, code int64) bool {
	return out.Code == code && out.Cost == 0 && len(out.Places) == 0
}

// places takes X and Y in turn.
func places(numbers ...int64) []impl.Place {
	var out []impl.Place
	for pair := range slices.Chunk(numbers, 2) {
		out = append(out, impl.Place{X: pair[0], Y: pair[1]})
	}
	return out
}

// Of each way the first and the last place are those that it is asked for.
func TestWayOfByHand(t *testing.T) {
	for _, c := range []struct {
		name string
		text string
		want []impl.Place
		cost int64
	}{
		{"one place", "5\n", places(0, 0), 0},
		{"one place of several", "12\n34\n", places(1, 1), 0},
		{"one place that cannot be left", "99\n95\n", places(1, 1), 0},
		{"to the right", "12\n34\n", places(0, 0, 1, 0), 4},
		{"to the left", "12\n34\n", places(1, 1, 0, 1), 8},
		{"down", "12\n34\n", places(0, 0, 0, 1), 5},
		{"up", "12\n34\n", places(1, 1, 1, 0), 7},
		{"above ahead of left", "00\n00\n", places(0, 0, 1, 0, 1, 1), 2},
		{"above ahead of right", "00\n00\n", places(1, 0, 0, 0, 0, 1), 2},
		{"left ahead of below", "00\n00\n", places(0, 1, 0, 0, 1, 0), 2},
		{"right ahead of below", "00\n00\n", places(1, 1, 1, 0, 0, 0), 2},
		{"left ahead of right", "0000\n0900\n0000\n0000\n", places(1, 0, 0, 0, 0, 1, 0, 2, 1, 2), 4},
		{"above ahead of below", "0000\n0900\n0000\n0000\n", places(0, 1, 0, 0, 1, 0, 2, 0, 2, 1), 4},
		{"left below, where it is cheaper", "08\n00\n", places(0, 0, 0, 1, 1, 1), 2},
		{"as near by more places, from above", "0000\n0100\n0000\n0000\n", places(0, 1, 0, 0, 1, 0, 2, 0, 2, 1), 4},
		{"as near by fewer places, from the left", "0100\n0000\n0000\n0000\n", places(0, 0, 1, 0, 2, 0), 4},
		{"as near by fewer places, back from the right", "0100\n0000\n0000\n0000\n", places(2, 0, 1, 0, 0, 0), 4},
		{"round a Wall", "0900\n0900\n0000\n0020\n", places(0, 0, 0, 1, 0, 2, 1, 2, 2, 2, 2, 1, 2, 0), 6},
		{"round what is dear", "0800\n0800\n0000\n0020\n", places(0, 0, 0, 1, 0, 2, 1, 2, 2, 2, 2, 1, 2, 0), 6},
		{"from corner to corner", "0000\n0000\n0000\n0000\n", places(0, 0, 1, 0, 2, 0, 3, 0, 3, 1, 3, 2, 3, 3), 6},
		{"from corner to corner, back", "0000\n0000\n0000\n0000\n", places(3, 3, 3, 2, 3, 1, 3, 0, 2, 0, 1, 0, 0, 0), 6},
		{"a choice at each place", "0000\n0090\n0900\n0000\n", places(0, 0, 1, 0, 2, 0, 3, 0, 3, 1, 3, 2, 3, 3), 6},
	} {
		got := impl.WayOf(gridOf(c.text), c.want[0], c.want[len(c.want)-1])
		if got.Code != impl.OK || got.Cost != c.cost || !slices.Equal(got.Places, c.want) {
			t.Errorf("%s: got %+v, want %+v of %d", c.name, got, c.want, c.cost)
		}
	}
}

// modelWay asks from b on back for the place ahead, as the document says it.
func modelWay(g impl.Grid, dists []int64, a impl.Place, b impl.Place) []impl.Place {
	way := []impl.Place{b}
	for way[0] != a {
		p := way[0]
		above, left := impl.Place{X: p.X, Y: p.Y - 1}, impl.Place{X: p.X - 1, Y: p.Y}
		right, below := impl.Place{X: p.X + 1, Y: p.Y}, impl.Place{X: p.X, Y: p.Y + 1}
		near := slices.DeleteFunc([]impl.Place{above, left, right, below}, func(q impl.Place) bool {
			if impl.TileAt(g, q.X, q.Y) == -1 {
				return true
			}
			cost, there := stepCost(g, q, p)
			return !there || dists[q.Y*g.Side+q.X]+cost != dists[p.Y*g.Side+p.X]
		})
		way = slices.Insert(way, 0, near[0])
	}
	return way
}

func TestWayOfEachPlace(t *testing.T) {
	for _, side := range rightSides() {
		for _, g := range wayGrids(side) {
			for _, a := range openPlaces(g) {
				dists := modelDists(g, a)
				for at, b := range allPlaces(side) {
					got := impl.WayOf(g, a, b)
					if dists[at] == impl.NoWay {
						if !onlyWayCode(got, impl.ErrNone) {
							t.Fatalf("%q, %+v to %+v: got %+v", impl.GridText(g), a, b, got)
						}
						continue
					}
					if want := modelWay(g, dists, a, b); got.Code != impl.OK || got.Cost != dists[at] || !slices.Equal(got.Places, want) {
						t.Fatalf("%q, %+v to %+v:\ngot  %+v\nwant %+v of %d", impl.GridText(g), a, b, got, want, dists[at])
					}
				}
			}
		}
	}
}

func TestWayOfWrongGrids(t *testing.T) {
	for name, g := range wrongGrids() {
		for _, a := range append(allPlaces(2), impl.Place{X: -1}, impl.Place{Y: 16}) {
			for _, b := range []impl.Place{{}, a, {X: 1}, {Y: -1}} {
				if got := impl.WayOf(g, a, b); !onlyWayCode(got, impl.ErrForm) {
					t.Errorf("%s, %+v to %+v: got %+v", name, a, b, got)
				}
			}
		}
	}
}

// That a place is not there is told ahead of the Wall that the other one is, and of there being no way.
func TestWayOfBeyond(t *testing.T) {
	for _, side := range rightSides() {
		for _, g := range []impl.Grid{impl.GridNew(side, 0).Grid, impl.GridNew(side, impl.Wall).Grid, mixed(side, 1)} {
			for _, far := range placesBeyond(side) {
				for _, p := range append(allPlaces(side), far) {
					if got := impl.WayOf(g, p, far); !onlyWayCode(got, impl.ErrRange) {
						t.Errorf("side %d, %+v to %+v: got %+v", side, p, far, got)
					}
					if got := impl.WayOf(g, far, p); !onlyWayCode(got, impl.ErrRange) {
						t.Errorf("side %d, %+v to %+v: got %+v", side, far, p, got)
					}
				}
			}
		}
	}
}

func TestWayOfNone(t *testing.T) {
	parted := gridOf("0900\n0900\n0900\n0900\n")
	for _, c := range []struct {
		name string
		g    impl.Grid
		a, b impl.Place
	}{
		{"from a Wall", parted, impl.Place{X: 1}, impl.Place{}},
		{"to a Wall", parted, impl.Place{}, impl.Place{X: 1}},
		{"from Wall to Wall", parted, impl.Place{X: 1}, impl.Place{X: 1, Y: 1}},
		{"from a Wall to itself", parted, impl.Place{X: 1, Y: 2}, impl.Place{X: 1, Y: 2}},
		{"the one Wall there is", gridOf("9\n"), impl.Place{}, impl.Place{}},
		{"past the Walls", parted, impl.Place{Y: 1}, impl.Place{X: 2, Y: 1}},
		{"past the Walls, back", parted, impl.Place{X: 3, Y: 3}, impl.Place{}},
		{"aslant", gridOf("09\n90\n"), impl.Place{}, impl.Place{X: 1, Y: 1}},
	} {
		if got := impl.WayOf(c.g, c.a, c.b); !onlyWayCode(got, impl.ErrNone) {
			t.Errorf("%s: got %+v", c.name, got)
		}
	}
}

func TestWayOfIsNewMemory(t *testing.T) {
	room := slices.Repeat([]int64{3}, 32)
	g := impl.Grid{Side: 4, Tiles: room[8:24]}
	a, b := impl.Place{X: 3, Y: 0}, impl.Place{X: 0, Y: 2}
	got := impl.WayOf(g, a, b)
	want := slices.Clone(got.Places)
	for i := range got.Places {
		got.Places[i] = impl.Place{X: 77}
	}
	if !slices.Equal(room, slices.Repeat([]int64{3}, 32)) {
		t.Errorf("what was handed in is %v now", room)
	}
	if again := impl.WayOf(g, a, b); !slices.Equal(again.Places, want) {
		t.Errorf("got %+v, want %+v", again.Places, want)
	}
}
