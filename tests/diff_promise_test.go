package tests

import (
	"testing"

	"loop.example/g00635/impl"
)

// Promise 5: what is other makes of the one map the other one, and, taken back, of the other one the one.
func TestWhatIsOtherMakesTheOther(t *testing.T) {
	for _, side := range rightSides() {
		for _, a := range someGrids(side) {
			for _, b := range someGrids(side) {
				checkThereAndBack(t, a, b)
			}
		}
	}
}

func checkThereAndBack(t *testing.T, a impl.Grid, b impl.Grid) {
	t.Helper()
	l := impl.DiffOf(a, b)
	there := impl.DiffDo(a, l)
	if there.Code != impl.OK || !impl.SameGrid(there.Grid, b) {
		t.Fatalf("from %q to %q came %+v", impl.GridText(a), impl.GridText(b), there)
	}
	back := impl.DiffDo(there.Grid, impl.Invert(l))
	if back.Code != impl.OK || !impl.SameGrid(back.Grid, a) {
		t.Fatalf("from %q to %q and back came %+v", impl.GridText(a), impl.GridText(b), back)
	}
}

// Changes of one place can be taken back only if the last one goes first.
func TestChangesOfOnePlaceAreTakenBack(t *testing.T) {
	for _, side := range rightSides() {
		g := mixed(side, 0)
		now := copyGrid(g)
		var l []impl.Change
		for i := range int64(64) {
			at := i * i % min(3, side*side)
			old := now.Tiles[at]
			now.Tiles[at] = (old + 1 + i%9) % 10
			l = append(l, impl.Change{X: at % side, Y: at / side, Old: old, New: now.Tiles[at]})
		}
		there := impl.DiffDo(g, l)
		if there.Code != impl.OK || !impl.SameGrid(there.Grid, now) {
			t.Fatalf("side %d: got %+v, want %+v", side, there, now)
		}
		if back := impl.DiffDo(there.Grid, impl.Invert(l)); back.Code != impl.OK || !impl.SameGrid(back.Grid, g) {
			t.Errorf("side %d, back: got %+v, want %+v", side, back, g)
		}
	}
}

// Promise 6: who alone changed something is followed.
func TestWhoAloneChangedIsFollowed(t *testing.T) {
	for _, side := range rightSides() {
		for _, base := range someGrids(side) {
			for _, g := range someGrids(side) {
				byA, byB, alike := impl.Merge(base, g, base), impl.Merge(base, base, g), impl.Merge(base, g, g)
				for name, got := range map[string]impl.MergeOut{"a alone": byA, "b alone": byB, "both alike": alike} {
					if got.Code != impl.OK || len(got.Clashes) != 0 || !impl.SameGrid(got.Grid, g) {
						t.Fatalf("%s, %q to %q: got %+v", name, impl.GridText(base), impl.GridText(g), got)
					}
				}
			}
			if got := impl.Merge(base, base, base); got.Code != impl.OK || len(got.Clashes) != 0 || !impl.SameGrid(got.Grid, base) {
				t.Fatalf("%q with itself: got %+v", impl.GridText(base), got)
			}
		}
	}
}

// Promise 6: nothing clashes but what both changed, each otherwise; and that does.
func TestNothingElseClashes(t *testing.T) {
	for _, side := range rightSides() {
		grids := someGrids(side)
		for i, base := range grids {
			for _, a := range grids {
				checkClashes(t, base, a, grids[(i*5+2)%len(grids)])
			}
		}
	}
}

func checkClashes(t *testing.T, base impl.Grid, a impl.Grid, b impl.Grid) {
	t.Helper()
	out := impl.Merge(base, a, b)
	clashing := map[impl.Place]bool{}
	for _, c := range out.Clashes {
		was, byA, byB := impl.TileAt(base, c.X, c.Y), impl.TileAt(a, c.X, c.Y), impl.TileAt(b, c.X, c.Y)
		if byA == was || byB == was || byA == byB || c.Old != byA || c.New != byB || impl.TileAt(out.Grid, c.X, c.Y) != byA {
			t.Fatalf("%q, %q, %q: %+v is a clash", impl.GridText(base), impl.GridText(a), impl.GridText(b), c)
		}
		clashing[impl.Place{X: c.X, Y: c.Y}] = true
	}
	if len(clashing) != len(out.Clashes) {
		t.Fatalf("%q, %q, %q: a place clashes twice: %+v", impl.GridText(base), impl.GridText(a), impl.GridText(b), out.Clashes)
	}
	// Handed in the other way round, the Merge is other in the clashes alone.
	other := impl.Merge(base, b, a)
	if got := impl.DiffDo(out.Grid, out.Clashes); got.Code != impl.OK || !impl.SameGrid(got.Grid, other.Grid) {
		t.Fatalf("%q, %q, %q: with the clashes turned %+v, want %+v", impl.GridText(base), impl.GridText(a), impl.GridText(b), got, other.Grid)
	}
	for at, was := range base.Tiles {
		byA, byB := a.Tiles[at], b.Tiles[at]
		place := impl.Place{X: int64(at) % base.Side, Y: int64(at) / base.Side}
		if byA != was && byB != was && byA != byB && !clashing[place] {
			t.Fatalf("%q, %q, %q: no clash at %+v", impl.GridText(base), impl.GridText(a), impl.GridText(b), place)
		}
	}
}
