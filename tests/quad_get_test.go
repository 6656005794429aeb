package tests

import (
	"fmt"
	"math"
	"strings"
	"testing"

	"loop.example/g00635/impl"
)

// steps has at each place from 3 to 7 a node one higher than the one ahead of it, and the leaves 0, 5 and 9 first.
func steps() impl.Pool {
	return poolOf(leaf(0), leaf(5), leaf(9), split(0, 1, 2, 0), split(3, 0, 0, 1), split(2, 4, 1, 0), split(5, 5, 5, 5), split(0, 0, 0, 6))
}

func TestPoolGetByHand(t *testing.T) {
	for _, c := range []struct {
		node int64
		side int64
		want string
	}{
		{1, 1, "5\n"},
		{1, 2, "55\n55\n"},
		{2, 8, strings.Repeat("99999999\n", 8)},
		{3, 2, "05\n90\n"},
		{3, 4, "0055\n0055\n9900\n9900\n"},
		{3, 8, strings.Repeat("00005555\n", 4) + strings.Repeat("99990000\n", 4)},
		{4, 4, "0500\n9000\n0055\n0055\n"},
		{4, 8, "00550000\n00550000\n99000000\n99000000\n00005555\n00005555\n00005555\n00005555\n"},
		{5, 8, "99990500\n99999000\n99990055\n99990055\n55550000\n55550000\n55550000\n55550000\n"},
	} {
		got := impl.PoolGet(steps(), c.node, c.side)
		if got.Code != impl.OK || impl.GridText(got.Grid) != c.want {
			t.Errorf("node %d, side %d: got %q, code %d", c.node, c.side, impl.GridText(got.Grid), got.Code)
		}
	}
}

func TestPoolGetEachHeightAndSide(t *testing.T) {
	p := steps()
	before := copyPool(p)
	heights := []int64{0, 0, 0, 1, 2, 3, 4, 5}
	for node, height := range heights {
		for doublings, side := range rightSides() {
			got := impl.PoolGet(p, int64(node), side)
			if height > int64(doublings) {
				if !onlyCode(got, impl.ErrRange) {
					t.Errorf("node %d, side %d: got %+v", node, side, got)
				}
			} else if got.Code != impl.OK || got.Grid.Side != side || !impl.GridRight(got.Grid) {
				t.Errorf("node %d, side %d: got %+v", node, side, got)
			}
		}
	}
	if !likePool(p, before) {
		t.Error("what was handed in is turned")
	}
}

func TestPoolGetOfTower(t *testing.T) {
	p := tower(impl.MaxPool)
	for node := int64(5); node < impl.MaxPool; node++ {
		for _, side := range rightSides() {
			if got := impl.PoolGet(p, node, side); !onlyCode(got, impl.ErrRange) {
				t.Errorf("node %d, side %d: got %+v", node, side, got)
			}
		}
	}
}

type poolFault struct {
	p    impl.Pool
	root int64
	side int64
	code int64
}

// poolFaults are what PoolGet, PoolAt and PoolSet refuse: each fault alone, and beside those that are named behind it.
func poolFaults() map[string]poolFault {
	out := map[string]poolFault{
		"height 1 of side 1": {steps(), 3, 1, impl.ErrRange},
		"height 2 of side 2": {steps(), 4, 2, impl.ErrRange},
		"height 3 of side 4": {steps(), 5, 4, impl.ErrRange},
	}
	for name, p := range wrongPools() {
		out[name] = poolFault{p, 0, 8, impl.ErrForm}
		out[name+", no such node"] = poolFault{p, -1, 8, impl.ErrForm}
		out[name+", no such side"] = poolFault{p, 1, 3, impl.ErrForm}
		out[name+", small side"] = poolFault{p, 2, 1, impl.ErrForm}
	}
	for _, side := range wrongSides() {
		name := fmt.Sprint("side ", side)
		out[name] = poolFault{steps(), 0, side, impl.ErrForm}
		out[name+", no such node"] = poolFault{steps(), 8, side, impl.ErrForm}
		out[name+", high node"] = poolFault{steps(), 7, side, impl.ErrForm}
		out[name+", empty"] = poolFault{impl.Pool{}, 0, side, impl.ErrForm}
	}
	for _, side := range rightSides() {
		for _, node := range noNodes(steps()) {
			out[fmt.Sprint("node ", node, " of side ", side)] = poolFault{steps(), node, side, impl.ErrNone}
		}
		for _, node := range append(noNodes(impl.Pool{}), 0, 1) {
			out[fmt.Sprint("empty, node ", node, " of side ", side)] = poolFault{impl.Pool{}, node, side, impl.ErrNone}
		}
		out[fmt.Sprint("high node of side ", side)] = poolFault{steps(), 6, side, impl.ErrRange}
	}
	return out
}

func TestPoolGetFaults(t *testing.T) {
	for name, f := range poolFaults() {
		if got := impl.PoolGet(f.p, f.root, f.side); !onlyCode(got, f.code) {
			t.Errorf("%s: got %+v, want code %d", name, got, f.code)
		}
	}
}

func TestPoolGetIsNewMemory(t *testing.T) {
	p := steps()
	before := copyPool(p)
	a, b := impl.PoolGet(p, 3, 2).Grid, impl.PoolGet(p, 3, 2).Grid
	for i := range a.Tiles {
		a.Tiles[i] = 77
	}
	if impl.GridText(b) != "05\n90\n" || !likePool(p, before) {
		t.Errorf("the other answer is %+v now, the Pool %+v", b, p)
	}
	for i := range p.Nodes {
		p.Nodes[i] = leaf(66)
	}
	if impl.GridText(b) != "05\n90\n" {
		t.Errorf("the answer is %+v now", b)
	}
}

func TestPoolAtEachPlace(t *testing.T) {
	p := steps()
	for node := range int64(8) {
		for _, side := range rightSides() {
			got := impl.PoolGet(p, node, side)
			for y := int64(-2); y < side+2; y++ {
				for x := int64(-2); x < side+2; x++ {
					want := int64(-1)
					if got.Code == impl.OK && within(x, 0, side) && within(y, 0, side) {
						want = got.Grid.Tiles[y*side+x]
					}
					if at := impl.PoolAt(p, node, side, x, y); at != want {
						t.Errorf("node %d, side %d: PoolAt %d, %d = %d, want %d", node, side, x, y, at, want)
					}
				}
			}
		}
	}
}

func TestPoolAtCorners(t *testing.T) {
	p := poolOf(leaf(1), leaf(2), leaf(3), leaf(4), split(0, 1, 2, 3))
	for _, side := range []int64{2, 4, 8} {
		end := side - 1
		for _, c := range [][3]int64{{0, 0, 1}, {end, 0, 2}, {0, end, 3}, {end, end, 4}, {side/2 - 1, side / 2, 3}, {side / 2, side/2 - 1, 2}} {
			if got := impl.PoolAt(p, 4, side, c[0], c[1]); got != c[2] {
				t.Errorf("side %d: PoolAt %d, %d = %d, want %d", side, c[0], c[1], got, c[2])
			}
		}
	}
	if got := impl.PoolAt(p, 4, 1, 0, 0); got != -1 {
		t.Errorf("of side 1: %d", got)
	}
}

// beyond are numbers that are no x and no y of that side.
func beyond(side int64) []int64 {
	return []int64{-1, -2, -side, side, side + 1, side * side, 1 << 32, 1 << 61, math.MinInt64, math.MaxInt64}
}

func TestPoolAtBeyond(t *testing.T) {
	for _, side := range rightSides() {
		for _, far := range beyond(side) {
			for _, c := range [][2]int64{{far, 0}, {0, far}, {far, side - 1}, {side - 1, far}, {far, far}} {
				if got := impl.PoolAt(steps(), 2, side, c[0], c[1]); got != -1 {
					t.Errorf("side %d: PoolAt %d, %d = %d", side, c[0], c[1], got)
				}
			}
		}
	}
}

func TestPoolAtFaults(t *testing.T) {
	for name, f := range poolFaults() {
		for _, at := range []int64{0, -1, 8, math.MaxInt64} {
			if got := impl.PoolAt(f.p, f.root, f.side, at, at); got != -1 {
				t.Errorf("%s: PoolAt %d, %d = %d", name, at, at, got)
			}
		}
	}
}
