package tests

import (
	"slices"
	"testing"

	"loop.example/g00635/impl"
)

func TestEditByHand(t *testing.T) {
	h := impl.HistNew(2).Hist
	a := impl.Edit(h, "main", 0, 0, 1, 1, 5)
	want := impl.Hist{
		Side:     2,
		Pool:     poolOf(leaf(0), leaf(5), split(1, 0, 0, 0)),
		Versions: []impl.Version{version(-1, -1, 0), version(0, -1, 2)},
		Branches: []impl.Branch{branch("main", 1)},
	}
	if !likeHistOut(a, impl.HistOut{Hist: want}) {
		t.Fatalf("got %+v", a)
	}
	b := impl.Edit(a.Hist, "main", 0, 0, 2, 2, 5) // all of one tile that is there: no node is new
	want.Versions = append(want.Versions, version(1, -1, 1))
	want.Branches[0].At = 2
	if !likeHistOut(b, impl.HistOut{Hist: want}) {
		t.Fatalf("got %+v", b)
	}
	c := impl.Edit(b.Hist, "main", 0, 0, 2, 2, 0) // as it was at first, and another Version for all that
	want.Versions = append(want.Versions, version(2, -1, 0))
	want.Branches[0].At = 3
	if !likeHistOut(c, impl.HistOut{Hist: want}) {
		t.Fatalf("got %+v", c)
	}
}

// The branches of the family are gone back; the Parent of what is drawn is where the branch is, not what is last.
func TestEditOfEachBranch(t *testing.T) {
	for place, name := range []string{"a", "b_2", "main"} {
		h := family()
		got := impl.Edit(h, name, 3, 0, 1, 2, 8)
		if got.Code != impl.OK || len(got.Clashes) != 0 || len(got.Hist.Versions) != len(h.Versions)+1 {
			t.Fatalf("%s: got %+v", name, got)
		}
		if !slices.Equal(got.Hist.Versions[:8], h.Versions) || !slices.Equal(got.Hist.Pool.Nodes[:len(h.Pool.Nodes)], h.Pool.Nodes) {
			t.Errorf("%s: what was is turned: %+v", name, got.Hist)
		}
		if v := got.Hist.Versions[8]; v.Parent != h.Branches[place].At || v.Other != -1 {
			t.Errorf("%s: the new Version is %+v", name, v)
		}
		want := copyBranches(h.Branches)
		want[place] = branch(name, 8)
		if !slices.EqualFunc(got.Hist.Branches, want, likeBranch) {
			t.Errorf("%s: the branches are %+v", name, got.Hist.Branches)
		}
		filled := impl.Fill(impl.Grown(h, name).Grid, 3, 0, 1, 2, 8).Grid
		if g := impl.Grown(got.Hist, name); !likeGrid(g.Grid, filled) {
			t.Errorf("%s: grown is %q", name, impl.GridText(g.Grid))
		}
	}
}

// Faults are told in order: the branch, the tile, the place, that nothing changes, and that there is no room.
func TestEditCodes(t *testing.T) {
	full := fullLine() // of side 1: main is at tile 7
	for _, c := range []struct {
		name                     string
		h                        impl.Hist
		branch                   string
		x, y, w, hi, tile, wants int64
	}{
		{"no branch, and all else wrong", family(), "none", -1, 0, 0, 0, 99, impl.ErrNone},
		{"no branch, no room", full, "none", 0, 0, 1, 1, 8, impl.ErrNone},
		{"tile and place", family(), "main", -1, 0, 1, 1, 10, impl.ErrForm},
		{"tile below 0", family(), "main", 0, 0, 1, 1, -1, impl.ErrForm},
		{"tile, no room", full, "main", 0, 0, 1, 1, 10, impl.ErrForm},
		{"x below 0", family(), "main", -1, 0, 1, 1, 1, impl.ErrRange},
		{"y below 0", family(), "main", 0, -1, 1, 1, 1, impl.ErrRange},
		{"w of 0", family(), "main", 0, 0, 0, 1, 1, impl.ErrRange},
		{"hi of 0", family(), "main", 0, 0, 1, 0, 1, impl.ErrRange},
		{"too wide", family(), "main", 1, 0, 4, 1, 1, impl.ErrRange},
		{"too high", family(), "main", 0, 1, 1, 4, 1, impl.ErrRange},
		{"place, no room", full, "main", 1, 0, 1, 1, 8, impl.ErrRange},
		{"nothing changes", family(), "main", 0, 0, 2, 2, 0, impl.ErrState},
		{"nothing changes at first", impl.HistNew(8).Hist, "main", 0, 0, 8, 8, 0, impl.ErrState},
		{"nothing changes, no room", full, "main", 0, 0, 1, 1, 7, impl.ErrState},
		{"nothing changes, no room for nodes", crowded(0), "main", 0, 0, 8, 8, 0, impl.ErrState},
		{"no room", full, "main", 0, 0, 1, 1, 8, impl.ErrFull},
		{"no room for nodes", crowded(0), "main", 0, 0, 1, 1, 8, impl.ErrFull},
	} {
		if got := impl.Edit(c.h, c.branch, c.x, c.y, c.w, c.hi, c.tile); !onlyHistCode(got, c.wants) {
			t.Errorf("%s: got %+v, want code %d", c.name, got, c.wants)
		}
	}
}

func TestEditToMaxVersions(t *testing.T) {
	h := impl.HistNew(4).Hist
	for i := range int64(impl.MaxVersions - 1) {
		got := checkCall(t, "drawing on", h, callEdit("main", i%4, i/4, 1, 1, 1+i%9))
		if got.Code != impl.OK || len(got.Hist.Versions) != int(i)+2 || got.Hist.Branches[0].At != i+1 {
			t.Fatalf("drawing %d: got %+v", i, got)
		}
		h = got.Hist
	}
	if got := impl.Edit(h, "main", 0, 0, 4, 4, 9); !onlyHistCode(got, impl.ErrFull) {
		t.Errorf("one more: got %+v", got)
	}
	back := impl.Undo(h, "main").Hist
	if got := impl.Edit(back, "main", 0, 0, 4, 4, 9); !onlyHistCode(got, impl.ErrFull) {
		t.Errorf("one more, gone back: got %+v", got)
	}
}

// A tile in an eight by eight of another one needs two splits more: its leaf, and the lowest split, are there.
func TestEditToMaxPool(t *testing.T) {
	for free := range 8 {
		got := checkCall(t, "crowded", crowded(free), callEdit("main", 7, 7, 1, 1, 8))
		if free < 2 && !onlyHistCode(got, impl.ErrFull) || free >= 2 && (got.Code != impl.OK || len(got.Hist.Pool.Nodes) != impl.MaxPool-free+2) {
			t.Errorf("%d free: code %d, %d nodes", free, got.Code, len(got.Hist.Pool.Nodes))
		}
	}
	if got := checkCall(t, "full, nothing new", crowded(0), callEdit("main", 0, 0, 8, 8, 8)); got.Code != impl.OK || len(got.Hist.Pool.Nodes) != impl.MaxPool {
		t.Errorf("all of a leaf that is there: code %d", got.Code)
	}
}

func TestEditJustFull(t *testing.T) {
	h := impl.Hist{Side: 2, Pool: tower(impl.MaxPool - 2), Versions: []impl.Version{version(-1, -1, 0)}, Branches: []impl.Branch{branch("main", 0)}}
	got := checkCall(t, "a tower", h, callEdit("main", 0, 0, 1, 1, 6)) // a leaf and a split are new
	if got.Code != impl.OK || len(got.Hist.Pool.Nodes) != impl.MaxPool {
		t.Fatalf("just full: code %d, %d nodes", got.Code, len(got.Hist.Pool.Nodes))
	}
	if more := checkCall(t, "a full tower", got.Hist, callEdit("main", 1, 1, 1, 1, 6)); more.Code != impl.ErrFull {
		t.Errorf("one more: code %d", more.Code)
	}
	h.Pool = tower(impl.MaxPool - 1)
	if got := checkCall(t, "a higher tower", h, callEdit("main", 0, 0, 1, 1, 6)); got.Code != impl.ErrFull {
		t.Errorf("one too many: code %d", got.Code)
	}
}
