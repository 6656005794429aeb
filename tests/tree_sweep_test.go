package tests

import (
	"math/rand"
	"slices"
	"testing"

	"loop.example/g00635/impl"
)

func onlySweepCode(out impl.SweepOut, code int64) bool {
	return out.Code == code && len(out.Pool.Nodes) == 0 && len(out.Roots) == 0
}

func likeSweep(a impl.SweepOut, b impl.SweepOut) bool {
	return a.Code == b.Code && likePool(a.Pool, b.Pool) && slices.Equal(a.Roots, b.Roots)
}

func checkSweep(t *testing.T, of string, p impl.Pool, roots []int64) impl.SweepOut {
	t.Helper()
	beforePool, beforeRoots := copyPool(p), slices.Clone(roots)
	got, want := impl.Sweep(p, roots), modelSweep(p, roots)
	if !likeSweep(got, want) {
		t.Fatalf("%s, roots %v:\ngot  %+v\nwant %+v", of, roots, got, want)
	}
	if !likePool(p, beforePool) || !slices.Equal(roots, beforeRoots) {
		t.Fatalf("%s, roots %v: what was handed in is turned", of, beforeRoots)
	}
	return got
}

func TestSweepByHand(t *testing.T) {
	p := poolOf(
		leaf(3), leaf(0), leaf(5), leaf(9),
		split(1, 2, 1, 1), // 4
		split(2, 3, 2, 2), // 5
		split(4, 1, 4, 2), // 6
		leaf(7),
		split(6, 5, 7, 4), // 8
	)
	for _, c := range []struct {
		name  string
		roots []int64
		nodes []impl.Node
		want  []int64
	}{
		{"no root", nil, nil, nil},
		{"an empty list", []int64{}, nil, nil},
		{"the first leaf", []int64{0}, []impl.Node{leaf(3)}, []int64{0}},
		{"a leaf between", []int64{2}, []impl.Node{leaf(5)}, []int64{0}},
		{"one leaf twice", []int64{7, 7}, []impl.Node{leaf(7)}, []int64{0, 0}},
		{"two leaves, the later one first", []int64{3, 0}, []impl.Node{leaf(3), leaf(9)}, []int64{1, 0}},
		{"a split", []int64{4}, []impl.Node{leaf(0), leaf(5), split(0, 1, 0, 0)}, []int64{2}},
		{"two splits that share a leaf", []int64{5, 4}, []impl.Node{leaf(0), leaf(5), leaf(9), split(0, 1, 0, 0), split(1, 2, 1, 1)}, []int64{4, 3}},
		{"a root below a root", []int64{6, 4, 2}, []impl.Node{leaf(0), leaf(5), split(0, 1, 0, 0), split(2, 0, 2, 1)}, []int64{3, 2, 1}},
		{"one root, thrice, and another one", []int64{5, 0, 5, 5}, []impl.Node{leaf(3), leaf(5), leaf(9), split(1, 2, 1, 1)}, []int64{3, 0, 3, 3}},
		{"all but the first", []int64{8}, []impl.Node{leaf(0), leaf(5), leaf(9), split(0, 1, 0, 0), split(1, 2, 1, 1), split(3, 0, 3, 1), leaf(7), split(5, 4, 6, 3)}, []int64{7}},
		{"all", []int64{8, 0}, p.Nodes, []int64{8, 0}},
	} {
		if got := checkSweep(t, c.name, p, c.roots); got.Code != impl.OK || !slices.Equal(got.Pool.Nodes, c.nodes) || !slices.Equal(got.Roots, c.want) {
			t.Errorf("%s: got %+v", c.name, got)
		}
	}
}

func TestSweepEachTwoRoots(t *testing.T) {
	for name, p := range treePools() {
		checkSweep(t, name, p, nil)
		for _, a := range someNodes(p) {
			checkSweep(t, name, p, []int64{a})
			for _, b := range someNodes(p) {
				checkSweep(t, name, p, []int64{a, b})
			}
		}
	}
}

func TestSweepManyRoots(t *testing.T) {
	r := rand.New(rand.NewSource(9))
	for name, p := range treePools() {
		for range 20 {
			roots := make([]int64, 0, 20)
			for len(p.Nodes) > 0 && len(roots) < impl.MaxVersions {
				roots = append(roots, r.Int63n(int64(len(p.Nodes))))
			}
			checkSweep(t, name, p, roots[:r.Intn(len(roots)+1)])
			checkSweep(t, name, p, roots)
		}
	}
}

// A root may be as high as it will: no side is asked for.
func TestSweepOfTower(t *testing.T) {
	p := tower(impl.MaxPool)
	for root := range int64(impl.MaxPool) {
		got := checkSweep(t, "tower", p, []int64{root})
		if want := max(1, root+1); root != 1 && int64(len(got.Pool.Nodes)) != want {
			t.Errorf("root %d: %d nodes are left", root, len(got.Pool.Nodes))
		}
	}
}

func TestSweepLimits(t *testing.T) {
	for _, p := range []impl.Pool{steps(), {}, widePool(impl.MaxPool + 1), poolOf(leaf(10))} {
		for _, root := range []int64{0, 5, -1, 8, 1 << 40} {
			for _, size := range []int{1, impl.MaxVersions - 1, impl.MaxVersions, impl.MaxVersions + 1, 100, impl.MaxList, impl.MaxList + 1, 5000} {
				checkSweep(t, "limits", p, slices.Repeat([]int64{root}, size))
			}
		}
	}
	for size, code := range map[int]int64{impl.MaxVersions: impl.OK, impl.MaxVersions + 1: impl.ErrForm, impl.MaxList: impl.ErrForm, impl.MaxList + 1: impl.ErrSize} {
		got := impl.Sweep(steps(), slices.Repeat([]int64{3}, size))
		if got.Code != code || code != impl.OK && !onlySweepCode(got, code) {
			t.Errorf("%d roots: got %+v, want code %d", size, got, code)
		}
		if code == impl.OK && !slices.Equal(got.Roots, slices.Repeat([]int64{3}, size)) {
			t.Errorf("%d roots: got %+v", size, got)
		}
	}
}

func TestSweepForm(t *testing.T) {
	for name, p := range wrongPools() {
		for _, roots := range [][]int64{nil, {0}, {-1}, {1, 2}, {1 << 40}, make([]int64, impl.MaxVersions+1), make([]int64, impl.MaxList)} {
			if got := checkSweep(t, name, p, roots); !onlySweepCode(got, impl.ErrForm) {
				t.Errorf("%s, roots %v: got %+v", name, roots, got)
			}
		}
		if got := impl.Sweep(p, make([]int64, impl.MaxList+1)); !onlySweepCode(got, impl.ErrSize) {
			t.Errorf("%s, too many roots: got %+v", name, got)
		}
	}
}

func TestSweepNone(t *testing.T) {
	for name, p := range treePools() {
		for _, none := range noNodes(p) {
			for _, roots := range [][]int64{{none}, {none, none}, {0, none}, {none, 0}, {0, none, 0}} {
				if got := checkSweep(t, name, p, roots); !onlySweepCode(got, impl.ErrNone) {
					t.Errorf("%s, roots %v: got %+v", name, roots, got)
				}
			}
		}
	}
	if got := impl.Sweep(impl.Pool{}, []int64{0}); !onlySweepCode(got, impl.ErrNone) {
		t.Errorf("empty: got %+v", got)
	}
}

func TestSweepIsNewMemory(t *testing.T) {
	for _, roots := range [][]int64{{5, 3, 5}, {7}, {2, 0}, {0, 1, 2, 3, 4, 5, 6, 7}} {
		checkPoolMemory(t, "Sweep", steps(), func(p impl.Pool) impl.Pool { return impl.Sweep(p, roots).Pool })
		list, room := inRoom(roots, 55)
		before := slices.Clone(room)
		first, again := impl.Sweep(steps(), list), impl.Sweep(steps(), list)
		want := slices.Clone(again.Roots)
		clear(first.Roots[:cap(first.Roots)])
		if !slices.Equal(room, before) {
			t.Errorf("roots %v: the answer shares memory with what was handed in", roots)
		}
		clear(room)
		if !slices.Equal(again.Roots, want) {
			t.Errorf("roots %v: the other answer is %v now", roots, again.Roots)
		}
	}
}
