package tests

import (
	"testing"

	"loop.example/g00635/impl"
)

func TestNodeLooksByHand(t *testing.T) {
	p := poolOf(
		leaf(0), leaf(1), leaf(2),
		split(0, 1, 0, 1), // 3
		split(0, 1, 0, 2), // 4
		split(3, 3, 3, 3), // 5
		split(3, 3, 3, 4), // 6
		split(4, 4, 4, 4), // 7
		split(3, 0, 1, 2), // 8
		split(5, 5, 5, 6), // 9
		split(7, 7, 7, 7), // 10
	)
	for _, c := range []struct {
		name    string
		a, b    int64
		side    int64
		want    int64
		reverse bool
	}{
		{"one leaf", 1, 1, 8, 1, false},
		{"one split", 3, 3, 2, 1, false},
		{"one high split", 10, 10, 8, 1, false},
		{"two leaves", 0, 1, 1, 1, true},
		{"two great leaves", 0, 1, 8, 1, true},
		{"a leaf and a split of leaves", 0, 3, 2, 5, true},
		{"a leaf that is none of the quarters", 2, 3, 4, 5, true},
		{"two splits that share three quarters", 3, 4, 2, 5, true},
		{"three pairs of one node, and one gone into", 5, 6, 4, 9, true},
		{"a pair that is met four times", 5, 7, 4, 21, true},
		{"a leaf and four splits", 0, 5, 4, 21, true},
		{"a split and leaves beside it", 5, 8, 4, 17, true},
		{"a leaf and a split and leaves", 0, 8, 4, 9, true},
		{"one place of many", 6, 7, 8, 17, true},
		{"of height 3, one quarter other", 9, 10, 8, 1 + 3*21 + 17, true},
		{"of height 3 and 2", 10, 5, 8, 1 + 4*(1+4*5), true},
		{"a leaf and all", 1, 10, 8, 85, true},
	} {
		if got := impl.NodeLooks(p, c.a, c.b, c.side); got != c.want {
			t.Errorf("%s: got %d, want %d", c.name, got, c.want)
		}
		if got := impl.NodeLooks(p, c.b, c.a, c.side); c.reverse && got != c.want {
			t.Errorf("%s, the other way: got %d, want %d", c.name, got, c.want)
		}
	}
}

func TestNodeLooksLikeModel(t *testing.T) {
	for name, p := range treePools() {
		before := copyPool(p)
		nodes := append(someNodes(p), -1, int64(len(p.Nodes)))
		for _, side := range rightSides() {
			for _, a := range nodes {
				for _, b := range nodes {
					want := int64(len(modelPairs(p, a, b, side)))
					if got := impl.NodeLooks(p, a, b, side); got != want {
						t.Fatalf("%s: nodes %d and %d, side %d: got %d, want %d", name, a, b, side, got, want)
					}
				}
			}
		}
		if !likePool(p, before) {
			t.Errorf("%s: is turned", name)
		}
	}
}

func TestNodeLooksOfNone(t *testing.T) {
	for name, faults := range pairFaults() {
		for _, f := range faults {
			if got := impl.NodeLooks(f.p, f.a, f.b, f.side); got != 0 {
				t.Errorf("%s: of %d and %d came %d", name, f.a, f.b, got)
			}
		}
	}
}
