package tests

import (
	"slices"
	"testing"

	"loop.example/g00635/impl"
)

func onlyMergeCode(out impl.MergeOut, code int64) bool {
	return out.Code == code && out.Grid.Side == 0 && len(out.Grid.Tiles) == 0 && len(out.Clashes) == 0
}

func TestMergeByHand(t *testing.T) {
	for _, c := range []struct {
		name       string
		base, a, b string
		want       string
		clashes    []impl.Change
	}{
		{"nothing changed", "12\n34\n", "12\n34\n", "12\n34\n", "12\n34\n", nil},
		{"a alone", "12\n34\n", "92\n38\n", "12\n34\n", "92\n38\n", nil},
		{"b alone", "12\n34\n", "12\n34\n", "19\n84\n", "19\n84\n", nil},
		{"both alike", "12\n34\n", "92\n34\n", "92\n34\n", "92\n34\n", nil},
		{"both, beside each other", "12\n34\n", "92\n34\n", "12\n38\n", "92\n38\n", nil},
		{"both otherwise", "12\n34\n", "92\n34\n", "82\n34\n", "92\n34\n", []impl.Change{{X: 0, Y: 0, Old: 9, New: 8}}},
		{"row by row", "00\n00\n", "12\n34\n", "56\n78\n", "12\n34\n", []impl.Change{{X: 0, Y: 0, Old: 1, New: 5}, {X: 1, Y: 0, Old: 2, New: 6}, {X: 0, Y: 1, Old: 3, New: 7}, {X: 1, Y: 1, Old: 4, New: 8}}},
		{"one of each", "00\n00\n", "10\n23\n", "04\n25\n", "14\n23\n", []impl.Change{{X: 1, Y: 1, Old: 3, New: 5}}},
		{"to nought and to a wall", "5\n", "0\n", "9\n", "0\n", []impl.Change{{X: 0, Y: 0, Old: 0, New: 9}}},
		{"a wall taken away by one", "9\n", "9\n", "0\n", "0\n", nil},
		{"here and there", "0000\n0000\n0000\n0000\n", "0001\n0000\n1000\n0101\n", "0002\n0020\n2000\n0120\n", "0001\n0020\n1000\n0121\n", []impl.Change{{X: 3, Y: 0, Old: 1, New: 2}, {X: 0, Y: 2, Old: 1, New: 2}}},
	} {
		got := impl.Merge(gridOf(c.base), gridOf(c.a), gridOf(c.b))
		if text := impl.GridText(got.Grid); got.Code != impl.OK || text != c.want || !slices.Equal(got.Clashes, c.clashes) {
			t.Errorf("%s: got %q, clashes %+v, code %d", c.name, text, got.Clashes, got.Code)
		}
	}
}

// checkMerge asks of each place who changed it, and follows that one.
func checkMerge(t *testing.T, base impl.Grid, a impl.Grid, b impl.Grid) impl.MergeOut {
	t.Helper()
	want := impl.MergeOut{Grid: copyGrid(base)}
	for at, was := range base.Tiles {
		byA, byB := a.Tiles[at] != was, b.Tiles[at] != was
		if byB {
			want.Grid.Tiles[at] = b.Tiles[at]
		}
		if byA {
			want.Grid.Tiles[at] = a.Tiles[at]
		}
		if byA && byB && a.Tiles[at] != b.Tiles[at] {
			want.Clashes = append(want.Clashes, impl.Change{X: int64(at) % base.Side, Y: int64(at) / base.Side, Old: a.Tiles[at], New: b.Tiles[at]})
		}
	}
	got := impl.Merge(base, a, b)
	if got.Code != impl.OK || !likeGrid(got.Grid, want.Grid) || !slices.Equal(got.Clashes, want.Clashes) {
		t.Fatalf("%q, %q, %q:\ngot  %+v\nwant %+v", impl.GridText(base), impl.GridText(a), impl.GridText(b), got, want)
	}
	return got
}

// Each three tiles there are, on the smallest Grid.
func TestMergeEachThreeTiles(t *testing.T) {
	for _, base := range rightTiles() {
		for _, a := range rightTiles() {
			for _, b := range rightTiles() {
				checkMerge(t, impl.GridNew(1, base).Grid, impl.GridNew(1, a).Grid, impl.GridNew(1, b).Grid)
			}
		}
	}
}

func TestMergeEachSide(t *testing.T) {
	for _, side := range rightSides() {
		all := side * side
		if got := checkMerge(t, mixed(side, 0), mixed(side, 1), mixed(side, 2)); int64(len(got.Clashes)) != all {
			t.Errorf("side %d: %d clashes", side, len(got.Clashes))
		}
		base := mixed(side, 3)
		for _, at := range corners(side) {
			checkMerge(t, base, turned(base, at), base)
			checkMerge(t, base, base, turned(base, at))
			checkMerge(t, base, turned(base, at), turned(base, at))
			checkMerge(t, base, turned(base, at), turned(turned(base, at), at))
			checkMerge(t, base, turned(base, 0), turned(base, at))
		}
		grids := someGrids(side)
		for i, base := range grids {
			for _, a := range grids {
				checkMerge(t, base, a, grids[(i+7)%len(grids)])
				checkMerge(t, base, grids[(i+3)%len(grids)], a)
			}
		}
	}
}

func TestMergeOfOtherSides(t *testing.T) {
	for _, base := range rightSides() {
		for _, a := range rightSides() {
			for _, b := range rightSides() {
				got := impl.Merge(mixed(base, 0), mixed(a, 1), mixed(b, 2))
				if base == a && a == b {
					if got.Code != impl.OK {
						t.Errorf("side %d: code %d", base, got.Code)
					}
				} else if !onlyMergeCode(got, impl.ErrForm) {
					t.Errorf("sides %d, %d, %d: got %+v", base, a, b, got)
				}
			}
		}
	}
}

func TestMergeWrongGrids(t *testing.T) {
	for name, g := range wrongGrids() {
		for _, r := range besideWrong(g) {
			for place, three := range map[string][3]impl.Grid{
				"base": {g, r, r}, "a": {r, g, r}, "b": {r, r, g},
				"base and a": {g, g, r}, "base and b": {g, r, g}, "a and b": {r, g, g}, "all": {g, g, g},
			} {
				if got := impl.Merge(three[0], three[1], three[2]); !onlyMergeCode(got, impl.ErrForm) {
					t.Errorf("%s as %s, beside side %d: got %+v", name, place, r.Side, got)
				}
			}
		}
	}
}

func TestMergeIsNewMemory(t *testing.T) {
	for name, seeds := range map[string][3]int64{
		"nothing changed": {0, 0, 0}, "a alone": {0, 1, 0}, "b alone": {0, 0, 1}, "both alike": {0, 1, 1}, "both otherwise": {0, 1, 2},
	} {
		three := [3]impl.Grid{mixed(4, seeds[0]), mixed(4, seeds[1]), mixed(4, seeds[2])}
		got := impl.Merge(three[0], three[1], three[2])
		grid, clashes := copyGrid(got.Grid), slices.Clone(got.Clashes)
		for i := range got.Grid.Tiles {
			got.Grid.Tiles[i] = 77
		}
		_ = append(got.Grid.Tiles, 55)
		if !slices.Equal(got.Clashes, clashes) {
			t.Errorf("%s: the answer's lists share memory", name)
		}
		for i := range got.Clashes {
			got.Clashes[i] = impl.Change{X: 66}
		}
		for i, g := range three {
			if !likeGrid(g, mixed(4, seeds[i])) {
				t.Errorf("%s: the answer shares memory with what was handed in", name)
			}
		}
		again := impl.Merge(three[0], three[1], three[2])
		for _, g := range three {
			for i := range g.Tiles {
				g.Tiles[i] = 44
			}
		}
		if !likeGrid(again.Grid, grid) || !slices.Equal(again.Clashes, clashes) {
			t.Errorf("%s: what was handed in shares memory with the answer", name)
		}
	}
}

// One Grid handed in for all three is not turned either, nor is the room behind its list.
func TestMergeLeavesRoomBehind(t *testing.T) {
	room := slices.Repeat([]int64{3}, 32)
	g := impl.Grid{Side: 4, Tiles: room[8:24]}
	got := impl.Merge(g, g, g)
	_ = append(got.Grid.Tiles, 55)
	got.Grid.Tiles[0] = 77
	if !slices.Equal(room, slices.Repeat([]int64{3}, 32)) {
		t.Errorf("the list is %v now", room)
	}
}
