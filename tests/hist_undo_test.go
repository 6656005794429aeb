package tests

import (
	"slices"
	"testing"

	"loop.example/g00635/impl"
)

// branchOf is one of the branches of a Hist, and the zero one where it has none such.
func branchOf(h impl.Hist, name string) impl.Branch {
	if at := branchPlace(h, name); at >= 0 {
		return h.Branches[at]
	}
	return impl.Branch{}
}

func TestUndoAndRedoByHand(t *testing.T) {
	for _, c := range []struct {
		call histCall
		want impl.Branch
	}{
		{callUndo("a"), branch("a", 3, 7)}, // of two parents it is Parent that it goes back to
		{callUndo("main"), branch("main", 0, 1, 3, 6)},
		{callRedo("b_2"), branch("b_2", 2, 4, 5)},
		{callRedo("main"), branch("main", 3, 6)},
	} {
		want := family()
		want.Branches[branchPlace(want, c.want.Name)] = c.want
		if got := c.call.do(family()); !likeHistOut(got, impl.HistOut{Hist: want}) {
			t.Errorf("%s: got %+v", c.call.name, got)
		}
	}
}

func TestUndoAndRedoCodes(t *testing.T) {
	for _, c := range []struct {
		name string
		h    impl.Hist
		call histCall
		want int64
	}{
		{"at the first", family(), callUndo("b_2"), impl.ErrState},
		{"new", impl.HistNew(4).Hist, callUndo("main"), impl.ErrState},
		{"at the first of a full line", fullLine(), callUndo("a"), impl.ErrState},
		{"nothing undone", family(), callRedo("a"), impl.ErrState},
		{"new", impl.HistNew(4).Hist, callRedo("main"), impl.ErrState},
		{"at the first, others can", fullLine(), callRedo("a"), impl.ErrState},
		{"no branch", family(), callUndo("none"), impl.ErrNone},
		{"no branch", family(), callRedo("none"), impl.ErrNone},
		{"no name", family(), callUndo(""), impl.ErrNone},
		{"no name", family(), callRedo("A"), impl.ErrNone},
	} {
		if got := c.call.do(c.h); !onlyHistCode(got, c.want) {
			t.Errorf("%s, %s: got %+v, want code %d", c.call.name, c.name, got, c.want)
		}
	}
}

// Back over all Versions and forth again: Redo grows by one, and shrinks by one, and at the end all is as it was.
func TestUndoAllAndRedoAll(t *testing.T) {
	for size := 2; size <= impl.MaxVersions; size++ {
		last := int64(size - 1)
		hists := []impl.Hist{line(size, last)}
		for i := last - 1; i >= 0; i-- {
			got := checkCall(t, "going back", hists[len(hists)-1], callUndo("main"))
			b := branchOf(got.Hist, "main")
			if got.Code != impl.OK || b.At != i || int64(len(b.Redo)) != last-i || b.Redo[0] != i+1 || b.Redo[len(b.Redo)-1] != last {
				t.Fatalf("%d versions, back to %d: got %+v", size, i, got)
			}
			hists = append(hists, got.Hist)
		}
		if got := impl.Undo(hists[len(hists)-1], "main"); !onlyHistCode(got, impl.ErrState) {
			t.Fatalf("%d versions, all back: got %+v", size, got)
		}
		h := hists[len(hists)-1]
		for i := len(hists) - 2; i >= 0; i-- {
			got := checkCall(t, "going forth", h, callRedo("main"))
			if !likeHistOut(got, impl.HistOut{Hist: hists[i]}) {
				t.Fatalf("%d versions, forth to %d: got %+v", size, i, got)
			}
			h = got.Hist
		}
		if got := impl.Redo(h, "main"); !onlyHistCode(got, impl.ErrState) {
			t.Fatalf("%d versions, all forth: got %+v", size, got)
		}
	}
}

// A new drawing in between: nothing is left to go forth to, what was gone back from stays, and back it goes past the new one.
func TestDrawnInBetween(t *testing.T) {
	h := impl.HistNew(2).Hist
	for i := range int64(4) {
		h = checkCall(t, "drawing", h, callEdit("main", i%2, i/2, 1, 1, i+1)).Hist
	}
	h = impl.Undo(impl.Undo(h, "main").Hist, "main").Hist
	if b := branchOf(h, "main"); b.At != 2 || !slices.Equal(b.Redo, []int64{3, 4}) {
		t.Fatalf("gone back twice it is %+v", b)
	}
	h = checkCall(t, "in between", h, callEdit("main", 0, 1, 2, 1, 9)).Hist
	if b := branchOf(h, "main"); b.At != 5 || len(b.Redo) != 0 || h.Versions[5].Parent != 2 {
		t.Fatalf("drawn in between it is %+v, of %+v", b, h.Versions)
	}
	if got := impl.Redo(h, "main"); !onlyHistCode(got, impl.ErrState) {
		t.Errorf("forth behind a new drawing: got %+v", got)
	}
	h = impl.Undo(impl.Undo(h, "main").Hist, "main").Hist
	if b := branchOf(h, "main"); b.At != 1 || !slices.Equal(b.Redo, []int64{2, 5}) {
		t.Errorf("gone back again it is %+v", b)
	}
	if got := impl.GridText(versionGrid(h, 4)); got != "12\n34\n" {
		t.Errorf("what was gone back from is %q now", got)
	}
}

// That a drawing is refused leaves what can be gone forth to.
func TestRefusedDrawingLeavesRedo(t *testing.T) {
	h := line(5, 2, 3, 4)
	if got := impl.Edit(h, "main", 0, 0, 1, 1, 2); !onlyHistCode(got, impl.ErrState) {
		t.Fatalf("got %+v", got)
	}
	if got := impl.Redo(h, "main"); got.Code != impl.OK || !likeBranch(branchOf(got.Hist, "main"), branch("main", 3, 4)) {
		t.Errorf("got %+v", got)
	}
}
