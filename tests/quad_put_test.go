package tests

import (
	"slices"
	"testing"

	"loop.example/g00635/impl"
)

func onlyPoolCode(out impl.PoolOut, code int64) bool {
	return out.Code == code && out.Root == 0 && len(out.Pool.Nodes) == 0
}

func gridOf(text string) impl.Grid {
	return impl.GridRead(text).Grid
}

// someGrids are right ones of that side: of one tile, of one tile other, of halves, stripes, and mixed ones.
func someGrids(side int64) []impl.Grid {
	plain := impl.GridNew(side, 0).Grid
	out := []impl.Grid{plain, impl.GridNew(side, 9).Grid}
	for at := range side * side {
		out = append(out, impl.Fill(plain, at%side, at/side, 1, 1, 1+at%9).Grid)
	}
	half := (side + 1) / 2
	for _, from := range [][2]int64{{0, 0}, {side - half, 0}, {0, side - half}, {side - half, side - half}} {
		out = append(out, impl.Fill(plain, from[0], from[1], half, half, 5).Grid)
	}
	for _, every := range []int64{1, 2, 4} {
		g := copyGrid(plain)
		for at := range g.Tiles {
			x, y := int64(at)%side, int64(at)/side
			g.Tiles[at] = (x/every + y/every) % 2 * 7
		}
		out = append(out, g)
	}
	for seed := range int64(10) {
		out = append(out, mixed(side, seed))
	}
	return out
}

func oneTile(g impl.Grid, x, y, side int64) bool {
	for dy := range side {
		for dx := range side {
			if g.Tiles[(y+dy)*g.Side+x+dx] != g.Tiles[y*g.Side+x] {
				return false
			}
		}
	}
	return true
}

// modelPut does what the document says, word by word: it looks at the whole square first, and for nodes one by one.
func modelPut(nodes []impl.Node, g impl.Grid, x, y, side int64) ([]impl.Node, int64) {
	var n impl.Node
	if oneTile(g, x, y, side) {
		n = leaf(g.Tiles[y*g.Side+x])
	} else {
		half := side / 2
		n.Tile = -1
		nodes, n.A = modelPut(nodes, g, x, y, half)
		nodes, n.B = modelPut(nodes, g, x+half, y, half)
		nodes, n.C = modelPut(nodes, g, x, y+half, half)
		nodes, n.D = modelPut(nodes, g, x+half, y+half, half)
	}
	if at := slices.Index(nodes, n); at >= 0 {
		return nodes, int64(at)
	}
	return append(nodes, n), int64(len(nodes))
}

// checkPut puts, holds the answer against the model, and gives it.
func checkPut(t *testing.T, p impl.Pool, g impl.Grid) impl.PoolOut {
	t.Helper()
	beforePool, beforeGrid := copyPool(p), copyGrid(g)
	out := impl.PoolPut(p, g)
	want, root := modelPut(slices.Clone(p.Nodes), g, 0, 0, g.Side)
	if len(want) > impl.MaxPool {
		if !onlyPoolCode(out, impl.ErrFull) {
			t.Fatalf("%q into %d nodes, %d then: got %+v", impl.GridText(g), len(p.Nodes), len(want), out)
		}
	} else if out.Code != impl.OK || out.Root != root || !slices.Equal(out.Pool.Nodes, want) {
		t.Fatalf("%q into %+v:\ngot  %+v\nwant %+v, root %d", impl.GridText(g), p, out, want, root)
	}
	if !likePool(p, beforePool) || !likeGrid(g, beforeGrid) {
		t.Fatalf("%q: what was handed in is turned", impl.GridText(g))
	}
	return out
}

func TestPoolPutByHand(t *testing.T) {
	for _, c := range []struct {
		name string
		text string
		into []impl.Node
		want []impl.Node
		root int64
	}{
		{"one tile", "7\n", nil, []impl.Node{leaf(7)}, 0},
		{"two by two of one tile", "33\n33\n", nil, []impl.Node{leaf(3)}, 0},
		{"four unlike", "12\n34\n", nil, []impl.Node{leaf(1), leaf(2), leaf(3), leaf(4), split(0, 1, 2, 3)}, 4},
		{"one other, A", "50\n00\n", nil, []impl.Node{leaf(5), leaf(0), split(0, 1, 1, 1)}, 2},
		{"one other, B", "05\n00\n", nil, []impl.Node{leaf(0), leaf(5), split(0, 1, 0, 0)}, 2},
		{"one other, C", "00\n50\n", nil, []impl.Node{leaf(0), leaf(5), split(0, 0, 1, 0)}, 2},
		{"one other, D", "00\n05\n", nil, []impl.Node{leaf(0), leaf(5), split(0, 0, 0, 1)}, 2},
		{"four alike that are split", "1212\n3434\n1212\n3434\n", nil,
			[]impl.Node{leaf(1), leaf(2), leaf(3), leaf(4), split(0, 1, 2, 3), split(4, 4, 4, 4)}, 5},
		{"quarters ahead of the whole", "0011\n0012\n3300\n4300\n", nil,
			[]impl.Node{leaf(0), leaf(1), leaf(2), split(1, 1, 1, 2), leaf(3), leaf(4), split(4, 4, 5, 4), split(0, 3, 6, 0)}, 7},
		{"all there", "50\n00\n", []impl.Node{leaf(0), leaf(9), leaf(5), split(2, 0, 0, 0), leaf(4)},
			[]impl.Node{leaf(0), leaf(9), leaf(5), split(2, 0, 0, 0), leaf(4)}, 3},
		{"a leaf that is there", "4\n", []impl.Node{leaf(0), leaf(4), leaf(5)}, []impl.Node{leaf(0), leaf(4), leaf(5)}, 1},
		{"a part there", "5500\n5500\n0000\n0000\n", []impl.Node{leaf(9), leaf(0)}, []impl.Node{leaf(9), leaf(0), leaf(5), split(2, 1, 1, 1)}, 3},
		{"a quarter there", "1200\n3400\n0000\n0000\n",
			[]impl.Node{leaf(4), leaf(3), leaf(2), leaf(1), split(3, 2, 1, 0)},
			[]impl.Node{leaf(4), leaf(3), leaf(2), leaf(1), split(3, 2, 1, 0), leaf(0), split(4, 5, 5, 5)}, 6},
		{"nothing there", "50\n00\n", []impl.Node{leaf(1), leaf(2), split(0, 1, 1, 1)},
			[]impl.Node{leaf(1), leaf(2), split(0, 1, 1, 1), leaf(5), leaf(0), split(3, 4, 4, 4)}, 5},
	} {
		got := impl.PoolPut(impl.Pool{Nodes: c.into}, gridOf(c.text))
		if got.Code != impl.OK || got.Root != c.root || !slices.Equal(got.Pool.Nodes, c.want) {
			t.Errorf("%s: got %+v", c.name, got)
		}
	}
}

func TestPoolPutOneTile(t *testing.T) {
	for _, side := range rightSides() {
		for _, tile := range rightTiles() {
			got := impl.PoolPut(impl.Pool{}, impl.GridNew(side, tile).Grid)
			if got.Code != impl.OK || got.Root != 0 || !likePool(got.Pool, poolOf(leaf(tile))) {
				t.Errorf("side %d, tile %d: got %+v", side, tile, got)
			}
		}
	}
}

func TestPoolPutIntoEachPool(t *testing.T) {
	for _, p := range somePools() {
		for _, side := range rightSides() {
			for _, g := range someGrids(side) {
				checkPut(t, p, g)
			}
		}
	}
}

func TestPoolPutOneAfterTheOther(t *testing.T) {
	for _, side := range rightSides() {
		var p impl.Pool
		for _, g := range someGrids(side) {
			if out := checkPut(t, p, g); out.Code == impl.OK {
				p = out.Pool
			}
		}
		if !impl.PoolRight(p) {
			t.Errorf("side %d: what comes of it is not right: %+v", side, p)
		}
	}
}

// Each number of nodes that is left free is too few, just enough, or more than enough.
func TestPoolPutFull(t *testing.T) {
	for _, g := range []impl.Grid{mixed(8, 3), mixed(4, 1), gridOf("98\n76\n"), gridOf("0\n"), impl.Fill(impl.GridNew(8, 0).Grid, 7, 7, 1, 1, 9).Grid} {
		whole, _ := modelPut(nil, g, 0, 0, g.Side)
		codes := map[int64]int{}
		for free := range 100 {
			wide := checkPut(t, widePool(impl.MaxPool-free), g)
			codes[wide.Code]++
			if wide.Code == impl.OK && !impl.PoolRight(wide.Pool) {
				t.Errorf("%d free: what comes of it is not right", free)
			}
			checkPut(t, tower(impl.MaxPool-free), g)
		}
		if len(whole) > 1 && (codes[impl.OK] == 0 || codes[impl.ErrFull] == 0) {
			t.Errorf("%q: codes are %v", impl.GridText(g), codes)
		}
	}
}

func TestPoolPutJustFull(t *testing.T) {
	g := gridOf("2200\n2200\n0000\n0000\n") // it lacks the leaf 2 and the split of a tower, that has the leaves 0 and 1
	got := impl.PoolPut(tower(impl.MaxPool-2), g)
	if got.Code != impl.OK || got.Root != impl.MaxPool-1 || len(got.Pool.Nodes) != impl.MaxPool {
		t.Errorf("just full: code %d, root %d, %d nodes", got.Code, got.Root, len(got.Pool.Nodes))
	}
	if again := impl.PoolPut(got.Pool, g); again.Code != impl.OK || again.Root != impl.MaxPool-1 || !likePool(again.Pool, got.Pool) {
		t.Errorf("what is there is put into a full one: code %d, root %d, %d nodes", again.Code, again.Root, len(again.Pool.Nodes))
	}
	for size := impl.MaxPool - 1; size <= impl.MaxPool; size++ {
		if got := impl.PoolPut(tower(size), g); !onlyPoolCode(got, impl.ErrFull) {
			t.Errorf("into %d: code %d, root %d, %d nodes", size, got.Code, got.Root, len(got.Pool.Nodes))
		}
	}
}

func TestPoolPutForm(t *testing.T) {
	for name, p := range wrongPools() {
		for _, g := range []impl.Grid{mixed(8, 0), impl.GridNew(1, 0).Grid, {}} {
			if got := impl.PoolPut(p, g); !onlyPoolCode(got, impl.ErrForm) {
				t.Errorf("%s: got %+v", name, got)
			}
		}
	}
	for name, g := range wrongGrids() {
		for into, p := range somePools() {
			if got := impl.PoolPut(p, g); !onlyPoolCode(got, impl.ErrForm) {
				t.Errorf("%s into %s: got %+v", name, into, got)
			}
		}
	}
}

func TestPoolPutIsNewMemory(t *testing.T) {
	g := gridOf("50\n00\n")
	for _, nodes := range [][]impl.Node{
		{leaf(0), leaf(5), split(1, 0, 0, 0)}, // nothing is new
		{leaf(0), leaf(5)},
		{leaf(3)},
	} {
		p := poolOf(nodes...)
		before := copyPool(p)
		out := impl.PoolPut(p, g)
		whole := copyPool(out.Pool)
		for i := range out.Pool.Nodes {
			out.Pool.Nodes[i] = leaf(77)
		}
		if !likePool(p, before) {
			t.Errorf("%+v: the answer shares memory with what was handed in", before)
		}
		again := impl.PoolPut(p, g)
		for i := range p.Nodes {
			p.Nodes[i] = leaf(66)
		}
		g.Tiles[0] = 6
		if !likePool(again.Pool, whole) {
			t.Errorf("%+v: what was handed in shares memory with the answer", before)
		}
		g.Tiles[0] = 5
	}
}

// A Pool whose list has room behind it must not be written to there.
func TestPoolPutLeavesRoomBehind(t *testing.T) {
	room := slices.Repeat([]impl.Node{leaf(55)}, 20)
	room[4], room[5] = leaf(1), leaf(2)
	before := slices.Clone(room)
	p := impl.Pool{Nodes: room[4:6]}
	a, b := impl.PoolPut(p, gridOf("12\n34\n")), impl.PoolPut(p, gridOf("56\n78\n"))
	if !slices.Equal(room, before) {
		t.Errorf("the list is %+v now", room)
	}
	if want, _ := modelPut(slices.Clone(p.Nodes), gridOf("12\n34\n"), 0, 0, 2); !slices.Equal(a.Pool.Nodes, want) {
		t.Errorf("the first answer is %+v behind the second, %+v", a, b)
	}
}
