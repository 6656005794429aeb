package tests

import (
	"slices"
	"testing"

	"loop.example/g00635/impl"
)

func likeTables(a impl.Tables, b impl.Tables) bool {
	return slices.Equal(a.Marks, b.Marks) && slices.Equal(a.Dists, b.Dists)
}

func copyTables(t impl.Tables) impl.Tables {
	return impl.Tables{Marks: slices.Clone(t.Marks), Dists: slices.Clone(t.Dists)}
}

func noTables(t impl.Tables) bool {
	return likeTables(t, impl.Tables{})
}

// markLists are lists of none to MaxMarks of the Grid's places that are no Walls; in some of them two or all are alike.
func markLists(g impl.Grid) [][]impl.Place {
	out := [][]impl.Place{nil, {}}
	open := openPlaces(g)
	if len(open) == 0 {
		return out
	}
	first, last := open[0], open[len(open)-1]
	middle, quarter := open[len(open)/2], open[len(open)/4]
	return append(out, []impl.Place{first}, []impl.Place{last}, []impl.Place{middle}, []impl.Place{first, last}, []impl.Place{last, first},
		[]impl.Place{middle, middle}, []impl.Place{last, quarter, last}, []impl.Place{middle, last, quarter, first}, []impl.Place{first, first, first, first})
}

func TestBakeByHand(t *testing.T) {
	g := gridOf("05\n29\n")
	left, right, below := impl.Place{}, impl.Place{X: 1}, impl.Place{Y: 1}
	for _, c := range []struct {
		name  string
		marks []impl.Place
		dists []int64
	}{
		{"none", nil, nil},
		{"one", []impl.Place{right}, []int64{6, 0, 9, -1}},
		{"two", []impl.Place{left, below}, []int64{0, 6, 3, -1, 3, 9, 0, -1}},
		{"two, in their order", []impl.Place{below, left}, []int64{3, 9, 0, -1, 0, 6, 3, -1}},
		{"two that are alike", []impl.Place{left, left}, []int64{0, 6, 3, -1, 0, 6, 3, -1}},
		{"MaxMarks", []impl.Place{right, left, below, right}, []int64{6, 0, 9, -1, 0, 6, 3, -1, 3, 9, 0, -1, 6, 0, 9, -1}},
	} {
		if got := impl.Bake(g, c.marks); !likeTables(got, impl.Tables{Marks: c.marks, Dists: c.dists}) {
			t.Errorf("%s: got %+v", c.name, got)
		}
	}
}

func TestBakeEachSide(t *testing.T) {
	for _, side := range rightSides() {
		for _, g := range wayGrids(side) {
			for _, marks := range markLists(g) {
				want := impl.Tables{Marks: marks}
				for _, m := range marks {
					want.Dists = append(want.Dists, modelDists(g, m)...)
				}
				if got := impl.Bake(g, marks); !likeTables(got, want) {
					t.Fatalf("%q, marks %+v:\ngot  %+v\nwant %+v", impl.GridText(g), marks, got, want)
				}
			}
		}
	}
}

func TestBakeHowMany(t *testing.T) {
	for _, side := range rightSides() {
		g := impl.GridNew(side, 2).Grid
		for size := range impl.MaxMarks + 1 {
			got := impl.Bake(g, slices.Repeat([]impl.Place{{X: side - 1}}, size))
			if len(got.Marks) != size || len(got.Dists) != size*int(side*side) {
				t.Errorf("side %d, %d marks: got %+v", side, size, got)
			}
		}
		for _, size := range []int{impl.MaxMarks + 1, impl.MaxMarks + 2, impl.MaxList - 1, impl.MaxList, impl.MaxList + 1, 10 * impl.MaxList} {
			if got := impl.Bake(g, slices.Repeat([]impl.Place{{X: side - 1}}, size)); !noTables(got) {
				t.Errorf("side %d, %d marks: got %+v", side, size, got)
			}
		}
	}
}

// One mark that may not be suffices, wherever it stands among others.
func checkBakeRefuses(t *testing.T, g impl.Grid, bad impl.Place) {
	t.Helper()
	for size := 1; size <= impl.MaxMarks; size++ {
		for at := range size {
			marks := slices.Repeat(openPlaces(g)[:1], size)
			marks[at] = bad
			if got := impl.Bake(g, marks); !noTables(got) {
				t.Errorf("%q, marks %+v: got %+v", impl.GridText(g), marks, got)
			}
		}
	}
}

func TestBakeRefusesMarks(t *testing.T) {
	for _, side := range rightSides() {
		for _, bad := range placesBeyond(side) {
			checkBakeRefuses(t, impl.GridNew(side, 0).Grid, bad)
		}
		for _, wall := range allPlaces(side)[1:] {
			checkBakeRefuses(t, impl.Fill(impl.GridNew(side, 0).Grid, wall.X, wall.Y, 1, 1, impl.Wall).Grid, wall)
		}
		if got := impl.Bake(impl.GridNew(side, impl.Wall).Grid, []impl.Place{{}}); !noTables(got) {
			t.Errorf("side %d of Walls: got %+v", side, got)
		}
	}
}

func TestBakeWrongGrids(t *testing.T) {
	for name, g := range wrongGrids() {
		for _, marks := range [][]impl.Place{nil, {}, {{}}, {{X: 1}}, {{}, {Y: 1}}, {{}, {}, {}, {}}, {{X: -1}}, slices.Repeat([]impl.Place{{}}, impl.MaxList+1)} {
			if got := impl.Bake(g, marks); !noTables(got) {
				t.Errorf("%s, %d marks: got %+v", name, len(marks), got)
			}
		}
	}
}

func TestBakeIsNewMemory(t *testing.T) {
	g := mixed(4, 0)
	for _, marks := range markLists(g) {
		room := append(slices.Clone(marks), impl.Place{X: 5}, impl.Place{X: 6})
		before := slices.Clone(room)
		handed := room[:len(marks)]
		got := impl.Bake(g, handed)
		want := copyTables(got)
		for i := range got.Marks {
			got.Marks[i] = impl.Place{X: 77}
		}
		_ = append(got.Marks, impl.Place{X: 55})
		_ = append(got.Dists, 44)
		if !slices.Equal(got.Dists, want.Dists) || !slices.Equal(room, before) {
			t.Errorf("marks %+v: the answer shares memory", before)
		}
		for i := range got.Dists {
			got.Dists[i] = 66
		}
		if !likeGrid(g, mixed(4, 0)) {
			t.Errorf("marks %+v: the Grid is %+v now", before, g)
		}
		again := impl.Bake(g, handed)
		for i := range room {
			room[i] = impl.Place{X: 33}
		}
		if !likeTables(again, want) {
			t.Errorf("what was handed in shares memory with the answer: %+v, want %+v", again, want)
		}
	}
}
