package tests

import (
	"fmt"
	"math/rand"
	"slices"
	"testing"

	"loop.example/g00635/impl"
)

// walkCall is some call of a walk, of what may be and, now and then, of what may not.
func walkCall(r *rand.Rand, side int64) histCall {
	names := []string{"main", "b", "c", "a_2", "main", "b", "none"}
	name, other := names[r.Intn(len(names))], names[r.Intn(len(names))]
	switch r.Intn(12) {
	case 0:
		return callFork(name, other)
	case 1, 2:
		return callUndo(name)
	case 3, 4:
		return callRedo(name)
	case 5, 6, 7:
		return callJoin(name, other)
	}
	x, y := r.Int63n(side), r.Int63n(side)
	return callEdit(name, x, y, 1+r.Int63n(side-x), 1+r.Int63n(side), r.Int63n(10))
}

// walk calls on and on, from a new Hist, and shows each step.
func walk(t *testing.T, seed int64, length int, step func(was impl.Hist, call histCall, got impl.HistOut)) {
	t.Helper()
	r := rand.New(rand.NewSource(seed))
	side := rightSides()[1+seed%3]
	h := impl.Fork(impl.HistNew(side).Hist, "main", "b").Hist
	for range length {
		call := walkCall(r, side)
		got := checkCall(t, fmt.Sprint("walk ", seed), h, call)
		if got.Code == impl.OK {
			step(h, call, got)
			h = got.Hist
		}
	}
}

func TestWalkGoesFar(t *testing.T) {
	counts, versions := map[byte]int{}, 0
	for seed := range int64(60) {
		walk(t, seed, 60, func(was impl.Hist, call histCall, got impl.HistOut) {
			counts[call.name[0]]++
			versions = max(versions, len(got.Hist.Versions))
		})
	}
	for _, kind := range []byte("EFURJ") {
		if counts[kind] < 50 {
			t.Errorf("%c was done %d times", kind, counts[kind])
		}
	}
	if versions != impl.MaxVersions {
		t.Errorf("at most %d versions", versions)
	}
}

// Promise 9: what is drawn on one branch is not seen on another one; no version that was is turned.
func TestNoVersionIsTurned(t *testing.T) {
	for seed := range int64(60) {
		var grids []impl.Grid
		walk(t, seed, 60, func(was impl.Hist, call histCall, got impl.HistOut) {
			for len(grids) < len(was.Versions) {
				grids = append(grids, versionGrid(was, int64(len(grids))))
			}
			if !slices.Equal(got.Hist.Versions[:len(was.Versions)], was.Versions) {
				t.Fatalf("walk %d, %s: the Versions are %+v, were %+v", seed, call.name, got.Hist.Versions, was.Versions)
			}
			for number, g := range grids {
				if !likeGrid(versionGrid(got.Hist, int64(number)), g) {
					t.Fatalf("walk %d, %s: Version %d is turned", seed, call.name, number)
				}
			}
		})
	}
}

func TestNoOtherBranchIsTurned(t *testing.T) {
	for seed := range int64(60) {
		walk(t, seed, 60, func(was impl.Hist, call histCall, got impl.HistOut) {
			turned := 0
			for _, b := range was.Branches {
				now := branchOf(got.Hist, b.Name)
				if !likeBranch(b, now) {
					turned++
				} else if !likeGrid(impl.Grown(was, b.Name).Grid, impl.Grown(got.Hist, b.Name).Grid) {
					t.Fatalf("walk %d, %s: %s is other now", seed, call.name, b.Name)
				}
			}
			// A fork turns none; all else turns the one branch that it is of.
			if forked := call.name[0] == 'F'; forked && turned != 0 || !forked && turned != 1 || len(got.Hist.Branches) != len(was.Branches) != forked {
				t.Fatalf("walk %d, %s: %d branches are turned", seed, call.name, turned)
			}
		})
	}
}

func TestDrawnIsSeenOnOneBranch(t *testing.T) {
	for _, side := range rightSides() {
		h := impl.Fork(impl.HistNew(side).Hist, "main", "b").Hist
		h = impl.Fork(h, "b", "c").Hist
		for i, name := range []string{"main", "b", "c", "main"} {
			others := map[string]impl.Grid{}
			for _, b := range h.Branches {
				others[b.Name] = impl.Grown(h, b.Name).Grid
			}
			want := impl.Fill(others[name], 0, 0, 1, 1, int64(i+1)).Grid
			h = impl.Edit(h, name, 0, 0, 1, 1, int64(i+1)).Hist
			for other, g := range others {
				if other == name {
					g = want
				}
				if got := impl.Grown(h, other); got.Code != impl.OK || !likeGrid(got.Grid, g) {
					t.Errorf("side %d, drawn on %s: %s is %+v", side, name, other, got)
				}
			}
		}
	}
}

// backAndForth goes back as often as said, and forth as often again.
func backAndForth(t *testing.T, h impl.Hist, name string, times int) {
	t.Helper()
	var grids []impl.Grid
	at := h
	for range times {
		grids = append(grids, impl.Grown(at, name).Grid)
		at = impl.Undo(at, name).Hist
	}
	for _, g := range slices.Backward(grids) {
		forth := impl.Redo(at, name)
		if forth.Code != impl.OK || !likeGrid(impl.Grown(forth.Hist, name).Grid, g) {
			t.Fatalf("%s, of %d: got %+v", name, times, forth)
		}
		at = forth.Hist
	}
	if !likeHist(at, h) {
		t.Fatalf("%s, back and forth %d times: got %+v, was %+v", name, times, at, h)
	}
}

// Promise 10: what is gone back from can be gone forth to.
func TestBackAndForth(t *testing.T) {
	for seed := range int64(30) {
		walk(t, seed, 60, func(was impl.Hist, call histCall, got impl.HistOut) {
			for _, b := range got.Hist.Branches {
				depth := 0
				for at := b.At; at > 0; at = got.Hist.Versions[at].Parent {
					depth++
					backAndForth(t, got.Hist, b.Name, depth)
				}
			}
		})
	}
}

// Promise 10: behind a new drawing there is nothing to go forth to.
func TestNothingBehindNewDrawing(t *testing.T) {
	gone := 0
	for seed := range int64(60) {
		walk(t, seed, 60, func(was impl.Hist, call histCall, got impl.HistOut) {
			if kind := call.name[0]; kind != 'E' && kind != 'J' {
				return
			}
			newest := int64(len(got.Hist.Versions) - 1)
			for _, b := range got.Hist.Branches {
				if b.At != newest {
					continue
				}
				gone += len(branchOf(was, b.Name).Redo)
				if forth := impl.Redo(got.Hist, b.Name); !onlyHistCode(forth, impl.ErrState) {
					t.Fatalf("walk %d, %s: forth it goes to %+v", seed, call.name, forth)
				}
			}
		})
	}
	if gone == 0 {
		t.Error("no walk drew where there was something to go forth to")
	}
}

// mergedTile is the tile of the one who changed it, and into's where both did.
func mergedTile(base, into, from int64) int64 {
	if into == base {
		return from
	}
	return into
}

// checkJoined holds what came of a Join against the maps of the two Versions, and of what both come from.
func checkJoined(t *testing.T, was impl.Hist, got impl.HistOut) {
	t.Helper()
	newest := got.Hist.Versions[len(got.Hist.Versions)-1]
	common := int64(-1)
	ofOther := modelOrigins(was, newest.Other)
	for origin := range modelOrigins(was, newest.Parent) {
		if ofOther[origin] {
			common = max(common, origin)
		}
	}
	base, into, from := versionGrid(was, common), versionGrid(was, newest.Parent), versionGrid(was, newest.Other)
	joined := versionGrid(got.Hist, int64(len(got.Hist.Versions)-1))
	clashes := 0
	for at, tile := range joined.Tiles {
		if want := mergedTile(base.Tiles[at], into.Tiles[at], from.Tiles[at]); tile != want {
			t.Fatalf("of %v, %v and %v came %v", base.Tiles, into.Tiles, from.Tiles, joined.Tiles)
		}
		if into.Tiles[at] != base.Tiles[at] && from.Tiles[at] != base.Tiles[at] && into.Tiles[at] != from.Tiles[at] {
			clashes++
		}
	}
	if len(got.Clashes) != clashes {
		t.Fatalf("%d clash, %+v are told", clashes, got.Clashes)
	}
}

// Promise 11: what two branches come to together is the merge of both over what both come from; joined once more there is
// nothing to join.
func TestJoinedIsMerge(t *testing.T) {
	joins, clashes := 0, 0
	for seed := range int64(100) {
		walk(t, seed, 60, func(was impl.Hist, call histCall, got impl.HistOut) {
			if call.name[0] != 'J' {
				return
			}
			joins++
			clashes += len(got.Clashes)
			checkJoined(t, was, got)
			if again := call.do(got.Hist); !onlyHistCode(again, impl.ErrState) {
				t.Fatalf("walk %d, %s: once more: %+v", seed, call.name, again)
			}
		})
	}
	if joins < 50 || clashes < 50 {
		t.Errorf("%d joins, %d clashes", joins, clashes)
	}
}

// Each two Versions of a Hist, joined where that may be, and then the other way round, which brings the one to the other.
func TestJoinedBothWaysIsOne(t *testing.T) {
	h := family()
	for a := range int64(len(h.Versions)) {
		for b := range int64(len(h.Versions)) {
			h.Branches = []impl.Branch{branch("a", a), branch("b", b)}
			first := checkCall(t, "family", h, callJoin("a", "b"))
			if nothing := modelOrigins(h, a)[b]; nothing != (first.Code == impl.ErrState) {
				t.Fatalf("%d and %d: got %+v", a, b, first)
			}
			if first.Code != impl.OK {
				continue
			}
			second := checkCall(t, "family, joined", first.Hist, callJoin("b", "a"))
			if second.Code != impl.OK || len(second.Clashes) != 0 || !likeGrid(impl.Grown(second.Hist, "a").Grid, impl.Grown(second.Hist, "b").Grid) {
				t.Fatalf("%d and %d, the other way: got %+v", a, b, second)
			}
			if again := impl.Join(second.Hist, "b", "a"); !onlyHistCode(again, impl.ErrState) {
				t.Fatalf("%d and %d, the other way once more: got %+v", a, b, again)
			}
			if again := impl.Join(second.Hist, "a", "b"); again.Code != impl.OK || len(again.Clashes) != 0 {
				t.Fatalf("%d and %d, back again: got %+v", a, b, again)
			}
		}
	}
}
