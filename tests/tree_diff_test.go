package tests

import (
	"math"
	"slices"
	"testing"

	"loop.example/g00635/impl"
)

// both is a Pool with the maps of both texts, and what their roots are.
func both(t *testing.T, a string, b string) (impl.Pool, int64, int64) {
	t.Helper()
	first := impl.PoolPut(poolOf(leaf(8)), gridOf(a))
	second := impl.PoolPut(first.Pool, gridOf(b))
	if first.Code != impl.OK || second.Code != impl.OK {
		t.Fatalf("%q and %q: codes %d and %d", a, b, first.Code, second.Code)
	}
	return second.Pool, first.Root, second.Root
}

func TestNodeDiffByHand(t *testing.T) {
	for _, c := range []struct {
		name, a, b string
		want       []impl.Change
	}{
		{"alike", "12\n34\n", "12\n34\n", nil},
		{"alike, of one tile", "11\n11\n", "11\n11\n", nil},
		{"side 1", "3\n", "4\n", []impl.Change{{X: 0, Y: 0, Old: 3, New: 4}}},
		{"first place", "12\n34\n", "92\n34\n", []impl.Change{{X: 0, Y: 0, Old: 1, New: 9}}},
		{"upper right", "12\n34\n", "19\n34\n", []impl.Change{{X: 1, Y: 0, Old: 2, New: 9}}},
		{"lower left", "12\n34\n", "12\n94\n", []impl.Change{{X: 0, Y: 1, Old: 3, New: 9}}},
		{"last place", "12\n34\n", "12\n39\n", []impl.Change{{X: 1, Y: 1, Old: 4, New: 9}}},
		{"two leaves", "11\n11\n", "22\n22\n", []impl.Change{{X: 0, Y: 0, Old: 1, New: 2}, {X: 1, Y: 0, Old: 1, New: 2}, {X: 0, Y: 1, Old: 1, New: 2}, {X: 1, Y: 1, Old: 1, New: 2}}},
		{"a leaf and a split", "11\n11\n", "10\n01\n", []impl.Change{{X: 1, Y: 0, Old: 1, New: 0}, {X: 0, Y: 1, Old: 1, New: 0}}},
		{"a split and a leaf", "10\n01\n", "11\n11\n", []impl.Change{{X: 1, Y: 0, Old: 0, New: 1}, {X: 0, Y: 1, Old: 0, New: 1}}},
		{"quarters change places", "12\n34\n", "21\n34\n", []impl.Change{{X: 0, Y: 0, Old: 1, New: 2}, {X: 1, Y: 0, Old: 2, New: 1}}},
		{"row by row over quarters", "1111\n1111\n1111\n1111\n", "1221\n2112\n1111\n2112\n", []impl.Change{
			{X: 1, Y: 0, Old: 1, New: 2}, {X: 2, Y: 0, Old: 1, New: 2}, {X: 0, Y: 1, Old: 1, New: 2},
			{X: 3, Y: 1, Old: 1, New: 2}, {X: 0, Y: 3, Old: 1, New: 2}, {X: 3, Y: 3, Old: 1, New: 2}}},
	} {
		p, a, b := both(t, c.a, c.b)
		if got := impl.NodeDiff(p, a, b, gridOf(c.a).Side); !slices.Equal(got, c.want) {
			t.Errorf("%s: got %+v, want %+v", c.name, got, c.want)
		}
	}
}

func TestNodeDiffEverywhere(t *testing.T) {
	for _, side := range rightSides() {
		p, a, b := both(t, impl.GridText(mixed(side, 3)), impl.GridText(mixed(side, 8)))
		got := impl.NodeDiff(p, a, b, side)
		if int64(len(got)) != side*side {
			t.Errorf("side %d: %d Changes", side, len(got))
		}
		for i, c := range got {
			if at := int64(i); c.X != at%side || c.Y != at/side || c.Old != mixed(side, 3).Tiles[at] || c.New != mixed(side, 8).Tiles[at] {
				t.Errorf("side %d: Change %d is %+v", side, i, c)
			}
		}
	}
}

// A node is as great as side says: leaves and low splits differ in as many places more.
func TestNodeDiffOfGreaterSides(t *testing.T) {
	p, a, b := both(t, "12\n34\n", "12\n39\n")
	for _, side := range rightSides() {
		if got := impl.NodeDiff(p, 0, 1, side); int64(len(got)) != side*side {
			t.Errorf("two leaves of side %d: %+v", side, got)
		}
		got := impl.NodeDiff(p, a, b, side)
		if side == 1 && len(got) != 0 || side > 1 && int64(len(got)) != side*side/4 {
			t.Errorf("two splits of side %d: %+v", side, got)
		}
		for _, c := range got {
			if c.X < side/2 || c.Y < side/2 || c.Old != 4 || c.New != 9 {
				t.Errorf("two splits of side %d: %+v", side, c)
			}
		}
	}
}

// Each two nodes of a great many Pools, and such that are none, of each side.
func TestNodeDiffLikeModel(t *testing.T) {
	for name, p := range treePools() {
		before := copyPool(p)
		nodes := append(someNodes(p), -1, int64(len(p.Nodes)))
		for _, side := range rightSides() {
			for _, a := range nodes {
				for _, b := range nodes {
					got, want := impl.NodeDiff(p, a, b, side), modelNodeDiff(p, a, b, side)
					if !slices.Equal(got, want) {
						t.Fatalf("%s: nodes %d and %d, side %d: got %+v, want %+v", name, a, b, side, got, want)
					}
				}
			}
		}
		if !likePool(p, before) {
			t.Errorf("%s: is turned", name)
		}
	}
}

type pairFault struct {
	p    impl.Pool
	a, b int64
	side int64
}

// pairFaults are those of which PoolGet tells a code for one of two nodes, or for both.
func pairFaults() map[string][]pairFault {
	out := map[string][]pairFault{}
	for name, f := range poolFaults() {
		for _, other := range []int64{f.root, 0, 1, 2, -1, math.MaxInt64} {
			out[name] = append(out[name], pairFault{f.p, f.root, other, f.side}, pairFault{f.p, other, f.root, f.side})
		}
	}
	return out
}

func TestNodeDiffOfNone(t *testing.T) {
	for name, faults := range pairFaults() {
		for _, f := range faults {
			if got := impl.NodeDiff(f.p, f.a, f.b, f.side); len(got) != 0 {
				t.Errorf("%s: of %d and %d came %+v", name, f.a, f.b, got)
			}
		}
	}
}

// One node too high is told nothing of, even beside itself: a way down to it need not be gone.
func TestNodeDiffOfTower(t *testing.T) {
	p := tower(impl.MaxPool)
	for _, c := range [][3]int64{{199, 199, 8}, {199, 0, 8}, {0, 199, 8}, {199, 198, 8}, {6, 6, 8}, {3, 3, 1}, {4, 3, 4}} {
		want := modelNodeDiff(p, c[0], c[1], c[2])
		if got := impl.NodeDiff(p, c[0], c[1], c[2]); !slices.Equal(got, want) {
			t.Errorf("%v: got %+v, want %+v", c, got, want)
		}
	}
	if got := impl.NodeDiff(p, 0, 4, 8); len(got) != 16 {
		t.Errorf("of the leaf 0 and node 4, side 8: %+v", got)
	}
}

func TestNodeDiffIsNewMemory(t *testing.T) {
	p := steps()
	nodes, room := inRoom(p.Nodes, leaf(55))
	before := slices.Clone(room)
	first := impl.NodeDiff(impl.Pool{Nodes: nodes}, 3, 4, 4)
	want := slices.Clone(first)
	again := impl.NodeDiff(impl.Pool{Nodes: nodes}, 3, 4, 4)
	if len(want) == 0 || !slices.Equal(room, before) {
		t.Fatalf("got %+v, and the room is %+v", want, room)
	}
	clear(first[:cap(first)])
	clear(room)
	if !slices.Equal(again, want) {
		t.Errorf("the other answer is %+v now", again)
	}
}
