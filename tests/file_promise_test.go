package tests

import (
	"fmt"
	"testing"

	"loop.example/g00635/impl"
)

// checkComesBackFromBytes: written and read it is what it was, and read and written the bytes are.
func checkComesBackFromBytes(t *testing.T, of string, h impl.Hist) {
	t.Helper()
	b := impl.HistBytes(h)
	if b == "" || b != fileOf(h) {
		t.Fatalf("%s: the bytes are %q", of, b)
	}
	got := checkCall(t, of, h, callFile())
	if got.Code != impl.OK || !likeHist(got.Hist, h) {
		t.Fatalf("%s: got %+v, was %+v", of, got, h)
	}
	if again := impl.HistBytes(got.Hist); again != b {
		t.Fatalf("%s: the bytes are %q, were %q", of, again, b)
	}
}

func TestEachHistComesBackFromItsBytes(t *testing.T) {
	for of, h := range fileHists() {
		checkComesBackFromBytes(t, of, h)
	}
	for size := 1; size <= impl.MaxVersions; size++ {
		for at := range int64(size) {
			var redo []int64
			for next := at + 1; next < int64(size); next++ {
				redo = append(redo, next)
				checkComesBackFromBytes(t, fmt.Sprint("a line of ", size), line(size, at, redo...))
			}
		}
	}
	for size := 1; size <= impl.MaxBranches; size++ {
		checkComesBackFromBytes(t, fmt.Sprint(size, " branches"), beside(size))
	}
	for size := 1; size <= impl.MaxPool; size++ {
		h := line(1, 0)
		h.Pool = tower(size)
		checkComesBackFromBytes(t, fmt.Sprint("a tower of ", size), h)
		checkPruned(t, fmt.Sprint("a tower of ", size), h)
	}
}

// Promise 12: a history comes back from its bytes; pruned, all maps are what they were, in no more nodes.
func TestWalksComeBackAndArePruned(t *testing.T) {
	for seed := range int64(60) {
		walk(t, seed, 60, func(was impl.Hist, call histCall, got impl.HistOut) {
			of := fmt.Sprintf("walk %d, %s", seed, call.name)
			checkComesBackFromBytes(t, of, got.Hist)
			pruned := checkPruned(t, of, got.Hist)
			checkComesBackFromBytes(t, of+", pruned", pruned)
			loose := loosened(got.Hist)
			if !impl.HistRight(loose) {
				return // the Pool has no room for needless nodes
			}
			checkComesBackFromBytes(t, of+", loosened", loose)
			if tight := checkPruned(t, of+", loosened", loose); !likeHist(tight, pruned) || len(tight.Pool.Nodes) >= len(loose.Pool.Nodes) {
				t.Fatalf("%s: loosened and pruned it is %+v, pruned alone %+v", of, tight, pruned)
			}
		})
	}
}

// What is read, or pruned, goes on as what was written would have.
func TestReadAndPrunedGoOn(t *testing.T) {
	for seed := range int64(20) {
		walk(t, seed, 60, func(was impl.Hist, call histCall, got impl.HistOut) {
			of := fmt.Sprintf("walk %d, read, %s", seed, call.name)
			if read := checkCall(t, of, impl.HistRead(impl.HistBytes(was)).Hist, call); !likeHistOut(read, got) {
				t.Fatalf("%s: got %+v, want %+v", of, read, got)
			}
			pruned := checkCall(t, of, impl.Prune(was).Hist, call)
			if pruned.Code != impl.OK || !likeHist(impl.Prune(pruned.Hist).Hist, impl.Prune(got.Hist).Hist) || len(pruned.Clashes) != len(got.Clashes) {
				t.Fatalf("%s, pruned: got %+v, want %+v", of, pruned, got)
			}
		})
	}
}
