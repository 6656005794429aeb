package tests

import (
	"fmt"
	"math"
	"slices"
	"testing"

	"loop.example/g00635/impl"
)

func wrongHows() []int64 {
	return []int64{-1, 8, -8, -4, 9, 16, 1 << 32, math.MinInt64, math.MaxInt64}
}

func rowsOf(g impl.Grid) rows {
	var out rows
	for row := range slices.Chunk(g.Tiles, int(g.Side)) {
		out = append(out, row)
	}
	return out
}

func TestTurnByHand(t *testing.T) {
	for _, c := range []struct {
		of   string
		want [8]string
	}{
		{"3\n", [8]string{"3\n", "3\n", "3\n", "3\n", "3\n", "3\n", "3\n", "3\n"}},
		{"12\n34\n", [8]string{
			"12\n34\n", "31\n42\n", "43\n21\n", "24\n13\n",
			"21\n43\n", "42\n31\n", "34\n12\n", "13\n24\n",
		}},
		{"0123\n4567\n8901\n2345\n", [8]string{
			"0123\n4567\n8901\n2345\n", "2840\n3951\n4062\n5173\n", "5432\n1098\n7654\n3210\n", "3715\n2604\n1593\n0482\n",
			"3210\n7654\n1098\n5432\n", "5173\n4062\n3951\n2840\n", "2345\n8901\n4567\n0123\n", "0482\n1593\n2604\n3715\n",
		}},
	} {
		for how, want := range c.want {
			got := impl.Turn(gridOf(c.of), int64(how))
			if got.Code != impl.OK || impl.GridText(got.Grid) != want {
				t.Errorf("%q by %d: got %q, code %d, want %q", c.of, how, impl.GridText(got.Grid), got.Code, want)
			}
		}
	}
}

// The words of the document: one quarter puts what was left above, and what was above right; four mirrors left and right.
func TestTurnEdges(t *testing.T) {
	for _, side := range rightSides() {
		g := mixed(side, 1)
		last := side - 1
		quarter, mirrored := impl.Turn(g, 1).Grid, impl.Turn(g, 4).Grid
		for i := range side {
			if impl.TileAt(quarter, i, 0) != impl.TileAt(g, 0, last-i) || impl.TileAt(quarter, last, i) != impl.TileAt(g, i, 0) {
				t.Errorf("side %d: one quarter puts what was left, or above, elsewhere: %q", side, impl.GridText(quarter))
			}
			if impl.TileAt(mirrored, last, i) != impl.TileAt(g, 0, i) || impl.TileAt(mirrored, 0, i) != impl.TileAt(g, last, i) {
				t.Errorf("side %d: mirrored, what was left is elsewhere: %q", side, impl.GridText(mirrored))
			}
		}
	}
}

func TestTurnLikeModel(t *testing.T) {
	for _, side := range rightSides() {
		for _, g := range someGrids(side) {
			before := copyGrid(g)
			for how := range int64(8) {
				got, want := impl.Turn(g, how), modelTurn(rowsOf(g), how).grid()
				if got.Code != impl.OK || !likeGrid(got.Grid, want) {
					t.Fatalf("%q by %d: got %+v, want %+v", impl.GridText(g), how, got, want)
				}
			}
			if !likeGrid(g, before) {
				t.Fatalf("%q: is turned itself", impl.GridText(before))
			}
		}
	}
}

func TestTurnFaults(t *testing.T) {
	for _, how := range wrongHows() {
		for _, side := range rightSides() {
			if got := impl.Turn(mixed(side, 0), how); !onlyCode(got, impl.ErrForm) {
				t.Errorf("side %d by %d: got %+v", side, how, got)
			}
		}
	}
	for name, g := range wrongGrids() {
		for _, how := range append(wrongHows(), 0, 1, 2, 3, 4, 5, 6, 7) {
			if got := impl.Turn(g, how); !onlyCode(got, impl.ErrForm) {
				t.Errorf("%s by %d: got %+v", name, how, got)
			}
		}
	}
}

func TestTurnIsNewMemory(t *testing.T) {
	for how := range int64(8) {
		tiles, room := inRoom(mixed(4, 2).Tiles, 55)
		before := slices.Clone(room)
		g := impl.Grid{Side: 4, Tiles: tiles}
		first, again := impl.Turn(g, how).Grid, impl.Turn(g, how).Grid
		want := copyGrid(again)
		for i := range first.Tiles[:cap(first.Tiles)] {
			first.Tiles[:cap(first.Tiles)][i] = 77
		}
		if !slices.Equal(room, before) {
			t.Errorf("by %d: the answer shares memory with what was handed in", how)
		}
		for i := range room {
			room[i] = 66
		}
		if !likeGrid(again, want) {
			t.Errorf("by %d: the other answer is %+v now", how, again)
		}
	}
}

func TestNodeTurnByHand(t *testing.T) {
	p := poolOf(leaf(0), leaf(5), split(1, 0, 0, 0))
	for how, c := range []struct {
		more []impl.Node
		want int64
	}{
		{nil, 2},
		{[]impl.Node{split(0, 1, 0, 0)}, 3},
		{[]impl.Node{split(0, 0, 0, 1)}, 3},
		{[]impl.Node{split(0, 0, 1, 0)}, 3},
		{[]impl.Node{split(0, 1, 0, 0)}, 3},
		{[]impl.Node{split(0, 0, 0, 1)}, 3},
		{[]impl.Node{split(0, 0, 1, 0)}, 3},
		{nil, 2},
	} {
		for _, side := range []int64{2, 4, 8} {
			got := impl.NodeTurn(p, 2, side, int64(how))
			if got.Code != impl.OK || got.Root != c.want || !slices.Equal(got.Pool.Nodes, slices.Concat(p.Nodes, c.more)) {
				t.Errorf("side %d by %d: got %+v", side, how, got)
			}
		}
		if got := impl.NodeTurn(p, 1, 8, int64(how)); got.Code != impl.OK || got.Root != 1 || !likePool(got.Pool, p) {
			t.Errorf("a leaf by %d: got %+v", how, got)
		}
	}
}

func TestNodeTurnLikeModel(t *testing.T) {
	codes := map[int64]int{}
	for name, p := range treePools() {
		before := copyPool(p)
		for _, side := range rightSides() {
			for _, node := range someNodes(p) {
				of, there := modelRows(p, node, side)
				for how := int64(0); there && how < 8; how++ {
					got := impl.NodeTurn(p, node, side, how)
					want, at := modelPut(slices.Clone(p.Nodes), modelTurn(of, how).grid(), 0, 0, side)
					codes[got.Code]++
					if len(want) > impl.MaxPool && !onlyPoolCode(got, impl.ErrFull) {
						t.Fatalf("%s: node %d, side %d by %d: code %d, root %d, %d nodes", name, node, side, how, got.Code, got.Root, len(got.Pool.Nodes))
					}
					if len(want) <= impl.MaxPool && (got.Code != impl.OK || got.Root != at || !slices.Equal(got.Pool.Nodes, want)) {
						t.Fatalf("%s: node %d, side %d by %d: got %+v, want %+v, root %d", name, node, side, how, got, want, at)
					}
				}
			}
		}
		if !likePool(p, before) {
			t.Errorf("%s: is turned", name)
		}
	}
	if codes[impl.OK] == 0 || codes[impl.ErrFull] == 0 {
		t.Errorf("codes are %v", codes)
	}
}

func TestNodeTurnFaults(t *testing.T) {
	for name, f := range poolFaults() {
		for _, how := range append(wrongHows(), 0, 3, 7) {
			if got := impl.NodeTurn(f.p, f.root, f.side, how); !onlyPoolCode(got, f.code) {
				t.Errorf("%s by %d: got %+v, want code %d", name, how, got, f.code)
			}
		}
	}
	for _, how := range wrongHows() {
		for _, p := range []impl.Pool{steps(), tower(impl.MaxPool), widePool(impl.MaxPool)} {
			for _, side := range rightSides() {
				if got := impl.NodeTurn(p, 1, side, how); !onlyPoolCode(got, impl.ErrForm) {
					t.Errorf("side %d by %d: got code %d", side, how, got.Code)
				}
			}
		}
	}
}

func TestNodeTurnIsNewMemory(t *testing.T) {
	for how := range int64(8) {
		checkPoolMemory(t, fmt.Sprint("NodeTurn by ", how), steps(), func(p impl.Pool) impl.Pool {
			return impl.NodeTurn(p, 4, 4, how).Pool
		})
	}
}
