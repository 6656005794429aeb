package tests

import (
	"fmt"
	"slices"
	"testing"

	"loop.example/g00635/impl"
)

func TestBoundByHand(t *testing.T) {
	plain := impl.GridNew(8, 0).Grid
	parted := gridOf("0900\n0900\n0901\n0900\n")
	for _, c := range []struct {
		name  string
		g     impl.Grid
		marks []impl.Place
		a, b  impl.Place
		want  int64
	}{
		{"no mark", plain, nil, impl.Place{}, impl.Place{X: 7, Y: 7}, 0},
		{"no mark, a Wall", parted, nil, impl.Place{X: 1}, impl.Place{}, 0},
		{"no mark, past the Walls", parted, nil, impl.Place{}, impl.Place{X: 2}, 0},
		{"as far from both", plain, places(0, 0), impl.Place{X: 3}, impl.Place{Y: 3}, 0},
		{"a nearer", plain, places(7, 0), impl.Place{X: 3}, impl.Place{Y: 3}, 6},
		{"b nearer", plain, places(7, 0), impl.Place{Y: 3}, impl.Place{X: 3}, 6},
		{"the first is greatest", plain, places(7, 0, 0, 0), impl.Place{X: 3}, impl.Place{Y: 3}, 6},
		{"the last is greatest", plain, places(0, 0, 7, 0), impl.Place{X: 3}, impl.Place{Y: 3}, 6},
		{"one between is greatest", plain, places(0, 0, 2, 0, 7, 7, 1, 1), impl.Place{X: 3}, impl.Place{Y: 3}, 4},
		{"greatest the other way round", plain, places(0, 0, 7, 0), impl.Place{X: 5}, impl.Place{Y: 1}, 6},
		{"less than it is", plain, places(0, 0), impl.Place{X: 3}, impl.Place{Y: 4}, 1},
		{"a place with itself", plain, places(0, 0, 7, 7), impl.Place{X: 2, Y: 5}, impl.Place{X: 2, Y: 5}, 0},
		{"two marks alike", plain, places(7, 0, 7, 0), impl.Place{X: 3}, impl.Place{Y: 3}, 6},
		{"tiles cost", parted, places(3, 2), impl.Place{X: 3, Y: 2}, impl.Place{X: 2, Y: 2}, 2},
		{"both on the mark's part", parted, places(0, 0), impl.Place{Y: 1}, impl.Place{Y: 3}, 2},
		{"both on the other part", parted, places(0, 0), impl.Place{X: 2, Y: 1}, impl.Place{X: 3, Y: 3}, 0},
		{"both on the other part, which has a mark", parted, places(0, 0, 2, 0), impl.Place{X: 2, Y: 1}, impl.Place{X: 3, Y: 3}, 3},
		{"both on the other part, which has the first mark", parted, places(2, 0, 0, 0), impl.Place{X: 2, Y: 1}, impl.Place{X: 3, Y: 3}, 3},
		{"a alone on the mark's part", parted, places(0, 0), impl.Place{}, impl.Place{X: 2}, impl.NoWay},
		{"b alone on the mark's part", parted, places(0, 0), impl.Place{X: 2}, impl.Place{}, impl.NoWay},
		{"each on a mark's part", parted, places(0, 0, 3, 3), impl.Place{X: 2}, impl.Place{}, impl.NoWay},
		{"a is a Wall", parted, places(0, 0), impl.Place{X: 1}, impl.Place{Y: 1}, impl.NoWay},
		{"b is a Wall", parted, places(0, 0), impl.Place{Y: 1}, impl.Place{X: 1}, impl.NoWay},
		{"both are Walls", parted, places(0, 0, 2, 2), impl.Place{X: 1, Y: 1}, impl.Place{X: 1}, 0},
		{"a Wall with itself", parted, places(0, 0), impl.Place{X: 1}, impl.Place{X: 1}, 0},
		{"a Wall, and what the mark cannot come to", parted, places(0, 0), impl.Place{X: 1}, impl.Place{X: 2}, 0},
		{"a Wall, and what the second mark comes to", parted, places(0, 0, 3, 0), impl.Place{X: 1}, impl.Place{X: 2}, impl.NoWay},
	} {
		if got := impl.Bound(c.g, impl.Bake(c.g, c.marks), c.a, c.b); got != c.want {
			t.Errorf("%s: got %d, want %d", c.name, got, c.want)
		}
	}
}

// A mark that comes to just one of both tells NoWay, wherever it stands among marks that come to neither.
func TestBoundOneMarkTellsNoWay(t *testing.T) {
	g := gridOf("0909\n0909\n0909\n0909\n")
	left, right := impl.Place{}, impl.Place{X: 2}
	for size := 1; size <= impl.MaxMarks; size++ {
		for at := range size {
			marks := slices.Repeat([]impl.Place{left}, size)
			marks[at] = right
			tables := impl.Bake(g, marks)
			for _, c := range [][2]impl.Place{{right, {X: 1}}, {{X: 1}, right}, {{X: 2, Y: 2}, {X: 3}}, {{X: 3, Y: 3}, {X: 2, Y: 1}}} {
				if got := impl.Bound(g, tables, c[0], c[1]); got != impl.NoWay {
					t.Errorf("%d marks, the one at %d, %+v: got %d", size, at, c, got)
				}
			}
			if got := impl.Bound(g, tables, right, impl.Place{X: 2, Y: 2}); got != 2 {
				t.Errorf("%d marks, the one at %d: got %d", size, at, got)
			}
		}
	}
}

func modelBound(marks [][]int64, a int, b int) int64 {
	var greatest int64
	for _, dists := range marks {
		hasA, hasB := dists[a] != impl.NoWay, dists[b] != impl.NoWay
		if hasA != hasB {
			return impl.NoWay
		}
		if hasA && hasB {
			greatest = max(greatest, dists[a]-dists[b], dists[b]-dists[a])
		}
	}
	return greatest
}

func TestBoundEachPlace(t *testing.T) {
	for _, side := range []int64{1, 2, 4} {
		for _, g := range wayGrids(side) {
			for _, marks := range markLists(g) {
				tables := impl.Bake(g, marks)
				var model [][]int64
				for _, m := range marks {
					model = append(model, modelDists(g, m))
				}
				for i, a := range allPlaces(side) {
					for j, b := range allPlaces(side) {
						if got, want := impl.Bound(g, tables, a, b), modelBound(model, i, j); got != want {
							t.Fatalf("%q, marks %+v, %+v to %+v: got %d, want %d", impl.GridText(g), marks, a, b, got, want)
						}
					}
				}
			}
		}
	}
}

// otherTables are none that Bake makes of the Grid, which has a Wall at the place 1, 0.
func otherTables(g impl.Grid) map[string]impl.Tables {
	open := openPlaces(g)
	marks := []impl.Place{open[0], open[len(open)-1]}
	baked := impl.Bake(g, marks)
	part := len(g.Tiles)
	five := slices.Repeat([]impl.Place{open[0]}, impl.MaxMarks+1)
	out := map[string]impl.Tables{
		"marks alone":            {Marks: marks},
		"dists alone":            {Dists: baked.Dists},
		"no mark, and one dist":  {Dists: []int64{0}},
		"a mark more":            {Marks: append(slices.Clone(marks), open[0]), Dists: baked.Dists},
		"a mark fewer":           {Marks: marks[:1], Dists: baked.Dists},
		"the dists of one fewer": {Marks: marks, Dists: baked.Dists[:part]},
		"a dist fewer":           {Marks: marks, Dists: baked.Dists[:2*part-1]},
		"a dist more":            {Marks: marks, Dists: append(slices.Clone(baked.Dists), 0)},
		"the marks turned":       {Marks: []impl.Place{marks[1], marks[0]}, Dists: baked.Dists},
		"MaxMarks and one":       {Marks: five, Dists: slices.Repeat(impl.Dists(g, open[0]), len(five))},
		"more than MaxList":      {Marks: slices.Repeat(five, impl.MaxList), Dists: baked.Dists},
		"a mark beyond":          {Marks: []impl.Place{{X: g.Side}}},
		"a mark beyond, dists":   {Marks: []impl.Place{{X: -1}}, Dists: slices.Repeat([]int64{impl.NoWay}, part)},
		"a Wall":                 {Marks: []impl.Place{{X: 1}}},
		"a Wall, dists":          {Marks: []impl.Place{{X: 1}}, Dists: slices.Repeat([]int64{impl.NoWay}, part)},
		"a Wall, 0 of itself":    {Marks: []impl.Place{{X: 1}}, Dists: append([]int64{-1, 0}, slices.Repeat([]int64{impl.NoWay}, part-2)...)},
	}
	for name, other := range map[string]impl.Grid{"a Wall fewer": impl.Fill(g, 1, 0, 1, 1, 0).Grid, "another tile": impl.Fill(g, 0, 0, 1, 1, 1).Grid, "another side": impl.GridNew(2, 0).Grid} {
		out["of a Grid with "+name] = impl.Bake(other, []impl.Place{{}})
	}
	for at := range baked.Dists {
		for _, by := range []int64{-1, 1} {
			turned := copyTables(baked)
			turned.Dists[at] += by
			out[fmt.Sprintf("dist %d turned by %d", at, by)] = turned
		}
	}
	return out
}

func TestBoundOfOtherTables(t *testing.T) {
	g := gridOf("0900\n0900\n0000\n0020\n")
	for name, tables := range otherTables(g) {
		for _, a := range allPlaces(4) {
			for _, b := range []impl.Place{a, {}, {X: 1}, {X: 3, Y: 3}} {
				if got := impl.Bound(g, tables, a, b); got != -1 {
					t.Fatalf("%s, %+v to %+v: got %d", name, a, b, got)
				}
			}
		}
	}
}

func TestBoundFromBeyond(t *testing.T) {
	for _, side := range rightSides() {
		for _, g := range []impl.Grid{impl.GridNew(side, 0).Grid, scattered(side, 2), impl.GridNew(side, impl.Wall).Grid} {
			for _, marks := range markLists(g) {
				tables := impl.Bake(g, marks)
				for _, far := range placesBeyond(side) {
					for _, p := range []impl.Place{far, {}, {X: side - 1, Y: side - 1}} {
						if got := [2]int64{impl.Bound(g, tables, p, far), impl.Bound(g, tables, far, p)}; got != [2]int64{-1, -1} {
							t.Errorf("side %d, %+v and %+v: got %v", side, p, far, got)
						}
					}
				}
			}
		}
	}
}

func TestBoundWrongGrids(t *testing.T) {
	right := impl.Bake(impl.GridNew(4, 0).Grid, []impl.Place{{}})
	for name, g := range wrongGrids() {
		for _, tables := range []impl.Tables{{}, right, impl.Bake(g, []impl.Place{{}}), {Marks: []impl.Place{{}}}, {Marks: []impl.Place{{}}, Dists: []int64{0}}} {
			for _, p := range []impl.Place{{}, {X: 1}, {X: -1}} {
				if got := impl.Bound(g, tables, p, impl.Place{}); got != -1 {
					t.Errorf("%s, %+v: got %d", name, p, got)
				}
			}
		}
	}
}

func TestBoundTurnsNothing(t *testing.T) {
	g := mixed(4, 0)
	marks := []impl.Place{{}, {X: 3, Y: 3}}
	tables := impl.Bake(g, marks)
	want := copyTables(tables)
	impl.Bound(g, tables, impl.Place{X: 1}, impl.Place{Y: 2})
	if !likeTables(tables, want) || !likeGrid(g, mixed(4, 0)) {
		t.Errorf("what was handed in is %+v, %+v now", tables, g)
	}
}
