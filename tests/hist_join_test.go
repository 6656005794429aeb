package tests

import (
	"slices"
	"testing"

	"loop.example/g00635/impl"
)

// twoDraw is a new Hist with a branch b beside main, on each of which is drawn once.
func twoDraw(side int64, onMain [5]int64, onB [5]int64) impl.Hist {
	h := impl.Fork(impl.HistNew(side).Hist, "main", "b").Hist
	h = impl.Edit(h, "main", onMain[0], onMain[1], onMain[2], onMain[3], onMain[4]).Hist
	return impl.Edit(h, "b", onB[0], onB[1], onB[2], onB[3], onB[4]).Hist
}

func TestJoinByHand(t *testing.T) {
	for _, c := range []struct {
		name         string
		onMain, onB  [5]int64
		want, wantsB string
		clashes      []impl.Change
	}{
		{"beside each other", [5]int64{0, 0, 1, 1, 5}, [5]int64{1, 1, 1, 1, 6}, "50\n06\n", "50\n06\n", nil},
		{"both alike", [5]int64{0, 0, 2, 1, 5}, [5]int64{0, 0, 1, 2, 5}, "55\n50\n", "55\n50\n", nil},
		{"one clash", [5]int64{0, 0, 2, 1, 5}, [5]int64{0, 0, 1, 2, 6}, "55\n60\n", "65\n60\n", []impl.Change{{X: 0, Y: 0, Old: 5, New: 6}}},
		{"all clash", [5]int64{0, 0, 2, 2, 5}, [5]int64{0, 0, 2, 2, 6}, "55\n55\n", "66\n66\n",
			[]impl.Change{{X: 0, Y: 0, Old: 5, New: 6}, {X: 1, Y: 0, Old: 5, New: 6}, {X: 0, Y: 1, Old: 5, New: 6}, {X: 1, Y: 1, Old: 5, New: 6}}},
	} {
		h := twoDraw(2, c.onMain, c.onB)
		got := checkCall(t, c.name, h, callJoin("main", "b"))
		if got.Code != impl.OK || !slices.Equal(got.Clashes, c.clashes) || impl.GridText(impl.Grown(got.Hist, "main").Grid) != c.want {
			t.Errorf("%s: got %q, %+v", c.name, impl.GridText(impl.Grown(got.Hist, "main").Grid), got)
		}
		if v := got.Hist.Versions[3]; len(got.Hist.Versions) != 4 || v.Parent != 1 || v.Other != 2 {
			t.Errorf("%s: the Versions are %+v", c.name, got.Hist.Versions)
		}
		if !slices.EqualFunc(got.Hist.Branches, []impl.Branch{branch("b", 2), branch("main", 3)}, likeBranch) {
			t.Errorf("%s: the branches are %+v", c.name, got.Hist.Branches)
		}
		other := checkCall(t, c.name, h, callJoin("b", "main"))
		if v := other.Hist.Versions[3]; impl.GridText(impl.Grown(other.Hist, "b").Grid) != c.wantsB || v.Parent != 2 || v.Other != 1 || len(other.Clashes) != len(c.clashes) {
			t.Errorf("%s, the other way: got %q, %+v", c.name, impl.GridText(impl.Grown(other.Hist, "b").Grid), other)
		}
	}
}

// What is merged over is the Common, not the first one: what both took over from it is no clash, and can be taken away by one.
func TestJoinOverCommon(t *testing.T) {
	h := impl.Edit(impl.HistNew(2).Hist, "main", 0, 0, 2, 2, 5).Hist
	h = impl.Fork(h, "main", "b").Hist
	h = impl.Edit(h, "main", 0, 0, 2, 1, 0).Hist
	h = impl.Edit(h, "b", 1, 1, 1, 1, 0).Hist
	got := checkCall(t, "taken away", h, callJoin("main", "b"))
	if text := impl.GridText(impl.Grown(got.Hist, "main").Grid); got.Code != impl.OK || text != "00\n50\n" || len(got.Clashes) != 0 {
		t.Errorf("got %q, %+v", text, got)
	}
	// Behind that join, the Common is where b was then: what b does now is not held against what main took over.
	h = impl.Edit(got.Hist, "b", 1, 1, 1, 1, 7).Hist
	again := checkCall(t, "drawn on", h, callJoin("main", "b"))
	if text := impl.GridText(impl.Grown(again.Hist, "main").Grid); again.Code != impl.OK || text != "00\n57\n" || len(again.Clashes) != 0 {
		t.Errorf("drawn on: got %q, %+v", text, again)
	}
}

// Where from comes from into, what into becomes is from's map, as a Version of its own.
func TestJoinOfWhatComesFromIt(t *testing.T) {
	h := impl.Fork(impl.HistNew(2).Hist, "main", "b").Hist
	h = impl.Edit(h, "b", 0, 0, 1, 1, 5).Hist
	h = impl.Edit(h, "b", 1, 1, 1, 1, 6).Hist
	got := checkCall(t, "main is behind", h, callJoin("main", "b"))
	want := copyHist(h)
	want.Versions = append(want.Versions, version(0, 2, h.Versions[2].Root))
	want.Branches[1].At = 3
	if !likeHistOut(got, impl.HistOut{Hist: want}) {
		t.Errorf("got %+v, want %+v", got, want)
	}
	if back := impl.Join(h, "b", "main"); !onlyHistCode(back, impl.ErrState) {
		t.Errorf("the other way: got %+v", back)
	}
	round := checkCall(t, "b is behind", got.Hist, callJoin("b", "main"))
	if round.Code != impl.OK || len(round.Clashes) != 0 || round.Hist.Versions[4] != version(2, 3, h.Versions[2].Root) {
		t.Errorf("round: got %+v", round)
	}
}

// Redo of into is gone; from is gone back, and stays so.
func TestJoinAndRedo(t *testing.T) {
	h := twoDraw(4, [5]int64{0, 0, 1, 1, 5}, [5]int64{3, 3, 1, 1, 6})
	h = impl.Edit(h, "main", 1, 1, 1, 1, 7).Hist
	h = impl.Edit(h, "b", 2, 2, 1, 1, 8).Hist
	h = impl.Undo(impl.Undo(h, "b").Hist, "main").Hist
	got := checkCall(t, "both gone back", h, callJoin("main", "b"))
	if got.Code != impl.OK || !slices.EqualFunc(got.Hist.Branches, []impl.Branch{branch("b", 2, 4), branch("main", 5)}, likeBranch) {
		t.Fatalf("got %+v", got)
	}
	if v := got.Hist.Versions[5]; v.Parent != 1 || v.Other != 2 {
		t.Errorf("the new Version is %+v", v)
	}
	if text := impl.GridText(impl.Grown(got.Hist, "main").Grid); text != "5000\n0000\n0000\n0006\n" {
		t.Errorf("grown is %q", text)
	}
}

func TestJoinCodes(t *testing.T) {
	full := fullLine() // a at 0, b at the last, main at 7
	atOne := impl.Fork(family(), "main", "z").Hist
	for _, c := range []struct {
		name       string
		h          impl.Hist
		into, from string
		want       int64
	}{
		{"no into", family(), "none", "main", impl.ErrNone},
		{"no from", family(), "main", "none", impl.ErrNone},
		{"neither", family(), "none", "none", impl.ErrNone},
		{"no from, no room", full, "main", "none", impl.ErrNone},
		{"no into, no room", full, "", "main", impl.ErrNone},
		{"with itself", family(), "main", "main", impl.ErrState},
		{"both at one", atOne, "main", "z", impl.ErrState},
		{"both at one, gone back or not", atOne, "z", "main", impl.ErrState},
		{"into comes from from", family(), "a", "main", impl.ErrState},
		{"into comes from from, the first", family(), "main", "b_2", impl.ErrState},
		{"into comes by Other", with(func(h *impl.Hist) { h.Branches[1] = branch("b_2", 4) }), "a", "b_2", impl.ErrState},
		{"with itself, no room", full, "main", "main", impl.ErrState},
		{"into comes from from, no room", full, "b", "main", impl.ErrState},
		{"no room", full, "a", "b", impl.ErrFull},
		{"no room, main", full, "main", "b", impl.ErrFull},
	} {
		if got := impl.Join(c.h, c.into, c.from); !onlyHistCode(got, c.want) {
			t.Errorf("%s: got %+v, want code %d", c.name, got, c.want)
		}
	}
}

// Beside a Pool that is too full no clash is told, though there are some.
func TestJoinToMaxPool(t *testing.T) {
	pool := impl.PoolPut(tower(impl.MaxPool-6), gridOf("52\n00\n"))
	other := impl.PoolPut(pool.Pool, gridOf("40\n40\n"))
	h := impl.Hist{
		Side:     2,
		Pool:     other.Pool,
		Versions: []impl.Version{version(-1, -1, 0), version(0, -1, pool.Root), version(0, -1, other.Root)},
		Branches: []impl.Branch{branch("a", 1), branch("b", 2)},
	}
	if got := checkCall(t, "a tower", h, callJoin("a", "b")); got.Code != impl.OK || len(got.Hist.Pool.Nodes) != impl.MaxPool || len(got.Clashes) != 1 {
		t.Errorf("just full: code %d, %d nodes, clashes %v", got.Code, len(got.Hist.Pool.Nodes), got.Clashes)
	}
	h.Pool.Nodes = append(h.Pool.Nodes, leaf(9))
	if got := checkCall(t, "a higher tower", h, callJoin("a", "b")); !onlyHistCode(got, impl.ErrFull) {
		t.Errorf("one too many: got code %d, clashes %v", got.Code, got.Clashes)
	}
}

func TestJoinToMaxVersions(t *testing.T) {
	h := twoDraw(4, [5]int64{0, 0, 1, 1, 5}, [5]int64{3, 3, 1, 1, 6})
	for i := range int64(impl.MaxVersions - 1 - len(h.Versions)) {
		h = impl.Edit(h, "main", 1, 1, 1, 1, 1+i%9).Hist
	}
	got := checkCall(t, "room for one", h, callJoin("main", "b"))
	if got.Code != impl.OK || len(got.Hist.Versions) != impl.MaxVersions {
		t.Fatalf("got %+v", got)
	}
	if again := impl.Join(got.Hist, "main", "b"); !onlyHistCode(again, impl.ErrState) {
		t.Errorf("once more: got %+v", again)
	}
	if other := impl.Join(got.Hist, "b", "main"); !onlyHistCode(other, impl.ErrFull) {
		t.Errorf("the other way: got %+v", other)
	}
}

// One of two branches that clash with a third: all that is told, is told of that join alone.
func TestJoinOneAfterTheOther(t *testing.T) {
	h := twoDraw(2, [5]int64{0, 0, 2, 2, 1}, [5]int64{0, 0, 2, 1, 2})
	h = impl.Undo(h, "main").Hist
	h = impl.Fork(h, "main", "c").Hist
	h = impl.Redo(h, "main").Hist
	h = impl.Edit(h, "c", 0, 1, 2, 1, 3).Hist
	first := checkCall(t, "b into c", h, callJoin("c", "b"))
	if text := impl.GridText(impl.Grown(first.Hist, "c").Grid); text != "22\n33\n" || len(first.Clashes) != 0 {
		t.Errorf("b into c: got %q, %+v", text, first.Clashes)
	}
	second := checkCall(t, "c into main", first.Hist, callJoin("main", "c"))
	if text := impl.GridText(impl.Grown(second.Hist, "main").Grid); text != "11\n11\n" || len(second.Clashes) != 4 {
		t.Errorf("c into main: got %q, %+v", text, second.Clashes)
	}
	if got := impl.Join(second.Hist, "main", "b"); !onlyHistCode(got, impl.ErrState) {
		t.Errorf("b, that came with c: got %+v", got)
	}
}
