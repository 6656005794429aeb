package tests

import (
	"fmt"
	"math/rand"
	"slices"
	"testing"

	"loop.example/g00635/impl"
)

// rows are a map as one sees it: a list of tiles for each row, the first one above.
type rows [][]int64

// modelMap goes down from a node, and comes to nothing where it would have to split one place.
func modelMap(p impl.Pool, node int64, side int64) (rows, bool) {
	n := p.Nodes[node]
	if n.Tile == -1 && side == 1 {
		return nil, false
	}
	out := make(rows, side)
	if n.Tile >= 0 {
		for y := range out {
			out[y] = slices.Repeat([]int64{n.Tile}, int(side))
		}
		return out, true
	}
	for i, q := range []int64{n.A, n.B, n.C, n.D} {
		part, there := modelMap(p, q, side/2)
		if !there {
			return nil, false
		}
		for y, row := range part {
			at := i/2*len(part) + y
			out[at] = append(out[at], row...)
		}
	}
	return out, true
}

// modelRows is what PoolGet tells in rows; false where it tells a code.
func modelRows(p impl.Pool, node int64, side int64) (rows, bool) {
	if !impl.PoolRight(p) || !slices.Contains(rightSides(), side) || !within(node, 0, int64(len(p.Nodes))) {
		return nil, false
	}
	return modelMap(p, node, side)
}

func (r rows) grid() impl.Grid {
	return impl.Grid{Side: int64(len(r)), Tiles: slices.Concat(r...)}
}

func modelNodeDiff(p impl.Pool, a, b, side int64) []impl.Change {
	from, fromThere := modelRows(p, a, side)
	to, toThere := modelRows(p, b, side)
	if !fromThere || !toThere {
		return nil
	}
	var out []impl.Change
	for y := range from {
		for x := range from[y] {
			if from[y][x] != to[y][x] {
				out = append(out, impl.Change{X: int64(x), Y: int64(y), Old: from[y][x], New: to[y][x]})
			}
		}
	}
	return out
}

func modelQuarters(p impl.Pool, node int64) []int64 {
	n := p.Nodes[node]
	if n.Tile == -1 {
		return []int64{n.A, n.B, n.C, n.D}
	}
	return []int64{node, node, node, node}
}

// modelPairs has each pair that is looked at, as often as it is, in a list of what is still to be looked at.
func modelPairs(p impl.Pool, a, b, side int64) [][2]int64 {
	_, fromThere := modelRows(p, a, side)
	_, toThere := modelRows(p, b, side)
	if !fromThere || !toThere {
		return nil
	}
	pairs := [][2]int64{{a, b}}
	for at := 0; at < len(pairs); at++ {
		a, b := pairs[at][0], pairs[at][1]
		if a == b || p.Nodes[a].Tile >= 0 && p.Nodes[b].Tile >= 0 {
			continue
		}
		ofA, ofB := modelQuarters(p, a), modelQuarters(p, b)
		for i := range ofA {
			pairs = append(pairs, [2]int64{ofA[i], ofB[i]})
		}
	}
	return pairs
}

func modelNodeCount(p impl.Pool, root, side, tile int64) int64 {
	var count int64
	of, _ := modelRows(p, root, side)
	for _, row := range of {
		for _, t := range row {
			if t == tile {
				count++
			}
		}
	}
	return count
}

// modelTurn does one quarter after the other: each column, read from below, becomes a row.
func modelTurn(of rows, how int64) rows {
	out := rows{}
	for _, row := range of {
		row = slices.Clone(row)
		if how >= 4 {
			slices.Reverse(row)
		}
		out = append(out, row)
	}
	for range how % 4 {
		next := rows{}
		for x := range out {
			var row []int64
			for y := len(out) - 1; y >= 0; y-- {
				row = append(row, out[y][x])
			}
			next = append(next, row)
		}
		out = next
	}
	return out
}

// modelBelow has the number of a node, and of each that is below it.
func modelBelow(p impl.Pool, node int64, met map[int64]bool) {
	if met[node] {
		return
	}
	met[node] = true
	if p.Nodes[node].Tile == -1 {
		for _, q := range modelQuarters(p, node) {
			modelBelow(p, q, met)
		}
	}
}

func modelSweep(p impl.Pool, roots []int64) impl.SweepOut {
	if len(roots) > impl.MaxList {
		return impl.SweepOut{Code: impl.ErrSize}
	}
	if !impl.PoolRight(p) || len(roots) > impl.MaxVersions {
		return impl.SweepOut{Code: impl.ErrForm}
	}
	met := map[int64]bool{}
	for _, root := range roots {
		if !within(root, 0, int64(len(p.Nodes))) {
			return impl.SweepOut{Code: impl.ErrNone}
		}
		modelBelow(p, root, met)
	}
	var kept []int64
	for node := range int64(len(p.Nodes)) {
		if met[node] {
			kept = append(kept, node)
		}
	}
	number := func(old int64) int64 { return int64(slices.Index(kept, old)) }
	var out impl.SweepOut
	for _, node := range kept {
		n := p.Nodes[node]
		if n.Tile == -1 {
			n = split(number(n.A), number(n.B), number(n.C), number(n.D))
		}
		out.Pool.Nodes = append(out.Pool.Nodes, n)
	}
	for _, root := range roots {
		out.Roots = append(out.Roots, number(root))
	}
	return out
}

// drawnPool has leaves, and splits of nodes ahead of them, as they are drawn; what would not be right is left out.
func drawnPool(seed int64, size int) impl.Pool {
	r := rand.New(rand.NewSource(seed))
	var p impl.Pool
	for len(p.Nodes) < size {
		n := leaf(r.Int63n(10))
		if most := int64(len(p.Nodes)); most > 1 && r.Intn(4) > 0 {
			// Low nodes are drawn more often, so that not all that is high is too high for a Grid.
			low := func() int64 { return min(r.Int63n(most), r.Int63n(most)) }
			n = split(low(), low(), low(), low())
		}
		if nodes := append(slices.Clone(p.Nodes), n); lastRight(nodes) {
			p.Nodes = nodes
		}
	}
	return p
}

// drawnMaps is a Pool into which Grids of a side were put, each other than the one ahead of it in a few places or in many.
func drawnMaps(t *testing.T, seed int64, side int64) (impl.Pool, []int64) {
	t.Helper()
	r := rand.New(rand.NewSource(seed))
	g := impl.GridNew(side, r.Int63n(10)).Grid
	var p impl.Pool
	var roots []int64
	for range 10 {
		put := impl.PoolPut(p, g)
		if put.Code == impl.OK {
			p, roots = put.Pool, append(roots, put.Root)
		}
		x, y := r.Int63n(side), r.Int63n(side)
		g = impl.Fill(g, x, y, 1+r.Int63n(side-x), 1+r.Int63n(side-y), r.Int63n(10)).Grid
	}
	if len(roots) < 2 {
		t.Fatalf("seed %d, side %d: just %d roots", seed, side, len(roots))
	}
	return p, roots
}

// treePools are right ones, with nodes of each height, and such that share quarters.
func treePools() map[string]impl.Pool {
	out := somePools()
	out["steps"] = steps()
	for seed := range int64(8) {
		out[fmt.Sprint("drawn ", seed)] = drawnPool(seed, 10+int(seed)*6)
	}
	return out
}

// someNodes are all of a small Pool, else some, from the first on, and the last.
func someNodes(p impl.Pool) []int64 {
	size := int64(len(p.Nodes))
	var out []int64
	for node := int64(0); node < size; node += 1 + node/8 {
		out = append(out, node)
	}
	if size > 0 && out[len(out)-1] != size-1 {
		out = append(out, size-1)
	}
	return out
}

func TestDrawnPoolsAreRight(t *testing.T) {
	for name, p := range treePools() {
		if !impl.PoolRight(p) {
			t.Errorf("%s: is not right", name)
		}
	}
	heights := map[int64]bool{}
	for _, p := range treePools() {
		for _, node := range someNodes(p) {
			heights[impl.Height(p, node)] = true
		}
	}
	for height := range int64(6) {
		if !heights[height] {
			t.Errorf("none is of height %d", height)
		}
	}
}
