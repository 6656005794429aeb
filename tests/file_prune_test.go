package tests

import (
	"slices"
	"testing"

	"loop.example/g00635/impl"
)

func TestPruneByHand(t *testing.T) {
	h := impl.Hist{
		Side:     2,
		Pool:     poolOf(leaf(8), leaf(5), leaf(0), split(0, 1, 1, 0), split(1, 2, 2, 2), split(2, 2, 2, 1), leaf(3)),
		Versions: []impl.Version{version(-1, -1, 2), version(0, -1, 4), version(0, -1, 1), version(1, 2, 4)},
		Branches: []impl.Branch{branch("b", 2), branch("main", 1, 3)},
	}
	want := impl.Hist{
		Side:     2,
		Pool:     poolOf(leaf(0), leaf(5), split(1, 0, 0, 0)),
		Versions: []impl.Version{version(-1, -1, 0), version(0, -1, 2), version(0, -1, 1), version(1, 2, 2)},
		Branches: []impl.Branch{branch("b", 2), branch("main", 1, 3)},
	}
	if got := checkCall(t, "by hand", h, callPrune()); !likeHistOut(got, impl.HistOut{Hist: want}) {
		t.Errorf("got %+v, want %+v", got, want)
	}
}

// The nodes stand as they are put anew: of the first Version first, its quarters in order ahead of it.
func TestPruneOrder(t *testing.T) {
	h := impl.Hist{
		Side:     4,
		Pool:     poolOf(leaf(1), leaf(2), leaf(3), split(2, 1, 0, 0), leaf(7), split(3, 1, 0, 3), split(4, 4, 4, 0), split(0, 6, 6, 0)),
		Versions: []impl.Version{version(-1, -1, 5), version(0, -1, 3), version(1, -1, 7)},
		Branches: []impl.Branch{branch("main", 2)},
	}
	want := copyHist(h)
	want.Pool = poolOf(leaf(3), leaf(2), leaf(1), split(0, 1, 2, 2), split(3, 1, 2, 3), leaf(7), split(5, 5, 5, 2), split(2, 6, 6, 2))
	want.Versions = []impl.Version{version(-1, -1, 4), version(0, -1, 3), version(1, -1, 7)}
	if got := checkCall(t, "order", h, callPrune()); !likeHistOut(got, impl.HistOut{Hist: want}) {
		t.Errorf("got %+v, want %+v", got, want)
	}
}

// neededNodes counts the nodes that some Version needs.
func neededNodes(h impl.Hist) int {
	met := map[int64]bool{}
	var meet func(node int64)
	meet = func(node int64) {
		if met[node] {
			return
		}
		met[node] = true
		if n := h.Pool.Nodes[node]; n.Tile == -1 {
			for _, q := range []int64{n.A, n.B, n.C, n.D} {
				meet(q)
			}
		}
	}
	for _, v := range h.Versions {
		meet(v.Root)
	}
	return len(met)
}

func checkPruned(t *testing.T, of string, h impl.Hist) impl.Hist {
	t.Helper()
	got := checkCall(t, of, h, callPrune())
	if got.Code != impl.OK || len(got.Clashes) != 0 || got.Hist.Side != h.Side {
		t.Fatalf("%s: got %+v", of, got)
	}
	if !slices.EqualFunc(got.Hist.Branches, h.Branches, likeBranch) || len(got.Hist.Versions) != len(h.Versions) {
		t.Fatalf("%s: the Branches are %+v, the Versions %+v", of, got.Hist.Branches, got.Hist.Versions)
	}
	for i, v := range got.Hist.Versions {
		if was := h.Versions[i]; v.Parent != was.Parent || v.Other != was.Other || !likeGrid(versionGrid(got.Hist, int64(i)), versionGrid(h, int64(i))) {
			t.Fatalf("%s: Version %d is %+v, was %+v", of, i, v, was)
		}
	}
	for _, b := range h.Branches {
		if now, was := impl.Grown(got.Hist, b.Name), impl.Grown(h, b.Name); now.Code != impl.OK || !likeGrid(now.Grid, was.Grid) {
			t.Fatalf("%s: %s is %+v, was %+v", of, b.Name, now, was)
		}
	}
	if size := len(got.Hist.Pool.Nodes); size > len(h.Pool.Nodes) || size != neededNodes(h) || size != neededNodes(got.Hist) {
		t.Fatalf("%s: %d nodes, %d before, %d needed", of, size, len(h.Pool.Nodes), neededNodes(h))
	}
	if again := impl.Prune(got.Hist); !likeHistOut(again, got) {
		t.Fatalf("%s: pruned again it is %+v, was %+v", of, again, got)
	}
	return got.Hist
}

func TestPruneOfEachHist(t *testing.T) {
	fewer, same := 0, 0
	for of, h := range fileHists() {
		if got := checkPruned(t, of, h); len(got.Pool.Nodes) < len(h.Pool.Nodes) {
			fewer++
		} else {
			same++
		}
	}
	if fewer < 5 || same < 5 {
		t.Errorf("%d have fewer nodes, %d as many", fewer, same)
	}
}

// What needs all its nodes, and has them in that order, is as it was.
func TestPruneTurnsNothingWhereNothingIsNeedless(t *testing.T) {
	h := twoDraw(8, [5]int64{0, 0, 3, 5, 5}, [5]int64{2, 2, 6, 1, 6})
	h = impl.Join(h, "main", "b").Hist
	h = impl.Undo(h, "b").Hist
	for of, h := range map[string]impl.Hist{"joined": h, "small": smallHist(), "new": impl.HistNew(4).Hist} {
		if got := impl.Prune(h); !likeHistOut(got, impl.HistOut{Hist: h}) {
			t.Errorf("%s: got %+v", of, got)
		}
	}
}

func TestPruneOfWrongHists(t *testing.T) {
	for of, h := range wrongHists() {
		before := copyHist(h)
		if got := impl.Prune(h); !onlyHistCode(got, impl.ErrForm) {
			t.Errorf("%s: got %+v", of, got)
		}
		if !likeHist(h, before) {
			t.Errorf("%s: what was handed in is turned", of)
		}
	}
}

// A Pool that was full has room for a drawing then.
func TestPruneMakesRoom(t *testing.T) {
	h := crowded(0)
	h.Pool.Nodes[impl.MaxPool-1] = split(10, 11, 12, 13)
	call := callEdit("main", 0, 0, 1, 1, 7)
	if got := checkCall(t, "full", h, call); got.Code != impl.ErrFull {
		t.Fatalf("full: got %+v", got)
	}
	pruned := checkPruned(t, "full", h)
	if got := checkCall(t, "pruned", pruned, call); got.Code != impl.OK {
		t.Errorf("pruned: got %+v", got)
	}
}

func TestPruneIsNewMemory(t *testing.T) {
	for of, h := range fileHists() {
		checkOwnMemory(t, of, h, callPrune())
		checkOwnMemory(t, of, h, callFile())
	}
}
