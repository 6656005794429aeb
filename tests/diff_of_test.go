package tests

import (
	"slices"
	"testing"

	"loop.example/g00635/impl"
)

// turned is g with another tile at each of these places, counted row by row.
func turned(g impl.Grid, places ...int64) impl.Grid {
	out := copyGrid(g)
	for _, at := range places {
		out.Tiles[at] = (out.Tiles[at] + 1 + at%9) % 10
	}
	return out
}

func corners(side int64) []int64 {
	return []int64{0, side - 1, side * (side - 1), side*side - 1}
}

func TestDiffOfByHand(t *testing.T) {
	for _, c := range []struct {
		name string
		a, b string
		want []impl.Change
	}{
		{"alike, side 1", "7\n", "7\n", nil},
		{"other, side 1", "7\n", "0\n", []impl.Change{{X: 0, Y: 0, Old: 7, New: 0}}},
		{"alike", "12\n34\n", "12\n34\n", nil},
		{"left above", "12\n34\n", "92\n34\n", []impl.Change{{X: 0, Y: 0, Old: 1, New: 9}}},
		{"right above", "12\n34\n", "19\n34\n", []impl.Change{{X: 1, Y: 0, Old: 2, New: 9}}},
		{"left below", "12\n34\n", "12\n94\n", []impl.Change{{X: 0, Y: 1, Old: 3, New: 9}}},
		{"right below", "12\n34\n", "12\n39\n", []impl.Change{{X: 1, Y: 1, Old: 4, New: 9}}},
		{"row by row", "12\n34\n", "56\n70\n", []impl.Change{{X: 0, Y: 0, Old: 1, New: 5}, {X: 1, Y: 0, Old: 2, New: 6}, {X: 0, Y: 1, Old: 3, New: 7}, {X: 1, Y: 1, Old: 4, New: 0}}},
		{"here and there", "0000\n0000\n0000\n0000\n", "0005\n0000\n6000\n0070\n", []impl.Change{{X: 3, Y: 0, Old: 0, New: 5}, {X: 0, Y: 2, Old: 0, New: 6}, {X: 2, Y: 3, Old: 0, New: 7}}},
		{"walls", "99\n00\n", "90\n90\n", []impl.Change{{X: 1, Y: 0, Old: 9, New: 0}, {X: 0, Y: 1, Old: 0, New: 9}}},
	} {
		if got := impl.DiffOf(gridOf(c.a), gridOf(c.b)); !slices.Equal(got, c.want) {
			t.Errorf("%s: got %+v, want %+v", c.name, got, c.want)
		}
	}
}

// checkDiff holds DiffOf against what is asked place by place, by x and y.
func checkDiff(t *testing.T, a impl.Grid, b impl.Grid) []impl.Change {
	t.Helper()
	beforeA, beforeB := copyGrid(a), copyGrid(b)
	var want []impl.Change
	for y := range a.Side {
		for x := range a.Side {
			if from, to := impl.TileAt(a, x, y), impl.TileAt(b, x, y); from != to {
				want = append(want, impl.Change{X: x, Y: y, Old: from, New: to})
			}
		}
	}
	got := impl.DiffOf(a, b)
	if !slices.Equal(got, want) {
		t.Fatalf("from %q to %q: got %+v, want %+v", impl.GridText(a), impl.GridText(b), got, want)
	}
	if !likeGrid(a, beforeA) || !likeGrid(b, beforeB) {
		t.Fatalf("from %q to %q: what was handed in is turned", impl.GridText(beforeA), impl.GridText(beforeB))
	}
	return got
}

func TestDiffOfEachSide(t *testing.T) {
	for _, side := range rightSides() {
		g := mixed(side, 2)
		if got := checkDiff(t, g, copyGrid(g)); len(got) != 0 {
			t.Errorf("side %d: alike, and other by %+v", side, got)
		}
		if got := checkDiff(t, g, g); len(got) != 0 {
			t.Errorf("side %d: other than itself by %+v", side, got)
		}
		for _, at := range corners(side) {
			other := turned(g, at)
			want := []impl.Change{{X: at % side, Y: at / side, Old: g.Tiles[at], New: other.Tiles[at]}}
			if got := checkDiff(t, g, other); !slices.Equal(got, want) {
				t.Errorf("side %d, other at %d: got %+v", side, at, got)
			}
		}
		if got := checkDiff(t, mixed(side, 3), mixed(side, 8)); int64(len(got)) != side*side {
			t.Errorf("side %d: other everywhere, by %d Changes", side, len(got))
		}
		for _, a := range someGrids(side) {
			for _, b := range someGrids(side) {
				checkDiff(t, a, b)
			}
		}
	}
}

func TestDiffOfTwoSides(t *testing.T) {
	for _, a := range rightSides() {
		for _, b := range rightSides() {
			got := impl.DiffOf(impl.GridNew(a, 1).Grid, impl.GridNew(b, 2).Grid)
			if a != b && len(got) != 0 || a == b && int64(len(got)) != a*a {
				t.Errorf("sides %d and %d: got %+v", a, b, got)
			}
		}
	}
}

// besideWrong are Grids to hand in with a wrong one: a right one of each side, its own copy, and the zero one.
func besideWrong(g impl.Grid) []impl.Grid {
	out := []impl.Grid{copyGrid(g), {}}
	for _, side := range rightSides() {
		out = append(out, mixed(side, 5))
	}
	return out
}

func TestDiffOfWrongGrids(t *testing.T) {
	for name, g := range wrongGrids() {
		for _, r := range besideWrong(g) {
			if got := impl.DiffOf(g, r); len(got) != 0 {
				t.Errorf("from %s to side %d: got %+v", name, r.Side, got)
			}
			if got := impl.DiffOf(r, g); len(got) != 0 {
				t.Errorf("from side %d to %s: got %+v", r.Side, name, got)
			}
		}
	}
}

func TestDiffOfIsNewMemory(t *testing.T) {
	a, b := mixed(4, 0), mixed(4, 1)
	first := impl.DiffOf(a, b)
	whole := slices.Clone(first)
	for i := range first {
		first[i] = impl.Change{X: 77, Y: 77, Old: 77, New: 77}
	}
	second := impl.DiffOf(a, b)
	a.Tiles[0], b.Tiles[0] = 6, 6
	if !slices.Equal(second, whole) {
		t.Errorf("got %+v, want %+v", second, whole)
	}
}
