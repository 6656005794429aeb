package tests

import (
	"math"
	"math/rand"
	"slices"
	"strconv"
	"strings"
	"testing"

	"loop.example/g00635/impl"
)

// stampOf is a Stamp as one writes it: rows of digits, and dots for holes, with blanks between the rows.
func stampOf(text string) impl.Stamp {
	var s impl.Stamp
	for _, row := range strings.Fields(text) {
		s.W = int64(len(row))
		s.H++
		for _, sign := range row {
			s.Tiles = append(s.Tiles, int64(strings.IndexRune(".0123456789", sign))-1)
		}
	}
	return s
}

func copyStamp(s impl.Stamp) impl.Stamp {
	return impl.Stamp{W: s.W, H: s.H, Tiles: slices.Clone(s.Tiles)}
}

// likeStamp compares field by field, whether the Stamps are right or not.
func likeStamp(a impl.Stamp, b impl.Stamp) bool {
	return a.W == b.W && a.H == b.H && slices.Equal(a.Tiles, b.Tiles)
}

func rightStampOut(out impl.StampOut, want impl.Stamp) bool {
	return out.Code == impl.OK && likeStamp(out.Stamp, want)
}

func onlyStampCode(out impl.StampOut, code int64) bool {
	return out.Code == code && likeStamp(out.Stamp, impl.Stamp{})
}

func stampRows(s impl.Stamp) rows {
	var out rows
	for y := range s.H {
		out = append(out, s.Tiles[y*s.W:(y+1)*s.W])
	}
	return out
}

func (r rows) stamp() impl.Stamp {
	return impl.Stamp{W: int64(len(r[0])), H: int64(len(r)), Tiles: slices.Concat(r...)}
}

// modelCut has what stands in a part of a map, or nothing if not all of it is in the map.
func modelCut(g impl.Grid, x, y, w, h int64) (impl.Stamp, bool) {
	s := impl.Stamp{W: w, H: h}
	if !within(x, 0, g.Side) || !within(y, 0, g.Side) || !within(w, 1, g.Side) || !within(h, 1, g.Side) || x+w > g.Side || y+h > g.Side {
		return impl.Stamp{}, false
	}
	for i, tile := range g.Tiles {
		if within(int64(i)%g.Side, x, w) && within(int64(i)/g.Side, y, h) {
			s.Tiles = append(s.Tiles, tile)
		}
	}
	return s, true
}

// stampTile is what a Stamp whose upper left is at x and y has for a place of the map; -1 if it has nothing for it.
func stampTile(s impl.Stamp, x, y, placeX, placeY int64) int64 {
	if !within(placeX, x, s.W) || !within(placeY, y, s.H) {
		return -1
	}
	return stampRows(s)[placeY-y][placeX-x]
}

// modelPutStamp asks each place of the map what the Stamp has for it.
func modelPutStamp(g impl.Grid, s impl.Stamp, x, y int64) impl.Grid {
	out := copyGrid(g)
	for i := range out.Tiles {
		if tile := stampTile(s, x, y, int64(i)%g.Side, int64(i)/g.Side); tile != -1 {
			out.Tiles[i] = tile
		}
	}
	return out
}

// modelStampTurn tells of each place of the turned one from where its tile comes.
func modelStampTurn(s impl.Stamp, quarters int64) impl.Stamp {
	of := stampRows(s)
	w, h := int(s.W), int(s.H)
	if quarters%2 == 1 {
		w, h = h, w
	}
	out := make(rows, h)
	for y := range h {
		for x := range w {
			from := [4][2]int{{x, y}, {y, w - 1 - x}, {w - 1 - x, h - 1 - y}, {h - 1 - y, x}}[quarters]
			out[y] = append(out[y], of[from[1]][from[0]])
		}
	}
	return out.stamp()
}

func modelStampText(s impl.Stamp) string {
	var out string
	for _, row := range stampRows(s) {
		for _, tile := range row {
			if tile < 0 {
				out += "."
			} else {
				out += strconv.Itoa(int(tile))
			}
		}
		out += "\n"
	}
	return out
}

// drawnStamp has a hole in about so many of a hundred places.
func drawnStamp(r *rand.Rand, w, h int64, holes int) impl.Stamp {
	s := impl.Stamp{W: w, H: h}
	for range w * h {
		tile := r.Int63n(10)
		if r.Intn(100) < holes {
			tile = -1
		}
		s.Tiles = append(s.Tiles, tile)
	}
	return s
}

// eachStamp calls for Stamps of each W and H: without holes, with some, of holes alone.
func eachStamp(do func(s impl.Stamp)) {
	r := rand.New(rand.NewSource(10))
	for w := int64(1); w <= impl.MaxSide; w++ {
		for h := int64(1); h <= impl.MaxSide; h++ {
			for _, holes := range []int{0, 20, 60, 100} {
				do(drawnStamp(r, w, h, holes))
			}
		}
	}
}

func wrongLengths() []int64 {
	return []int64{0, -1, -2, -8, 9, 10, 16, 64, 1 << 31, 1 << 32, 1 << 62, math.MinInt64, math.MaxInt64}
}

func wrongStamps() map[string]impl.Stamp {
	out := map[string]impl.Stamp{
		"zero":                 {},
		"w and h alone":        {W: 1, H: 1},
		"tiles alone":          {Tiles: []int64{1}},
		"w of 0":               {W: 0, H: 2},
		"h of 0":               {W: 2, H: 0},
		"w of 9":               {W: 9, H: 1, Tiles: make([]int64, 9)},
		"h of 9":               {W: 1, H: 9, Tiles: make([]int64, 9)},
		"both below 0":         {W: -2, H: -2, Tiles: make([]int64, 4)},
		"one too few":          {W: 3, H: 2, Tiles: make([]int64, 5)},
		"one too many":         {W: 3, H: 2, Tiles: make([]int64, 7)},
		"product wraps to 0":   {W: 1 << 32, H: 1 << 32},
		"product wraps to 4":   {W: 1<<62 + 1, H: 4, Tiles: make([]int64, 4)},
		"product wraps to 1":   {W: math.MaxInt64, H: math.MaxInt64, Tiles: make([]int64, 1)},
		"least w":              {W: math.MinInt64, H: 2},
		"more than MaxList":    {W: 8, H: 8, Tiles: make([]int64, impl.MaxList+1)},
		"all of MaxList":       {W: 20, H: 20, Tiles: make([]int64, impl.MaxList)},
		"tile beyond the wall": {W: 2, H: 1, Tiles: []int64{0, impl.Wall + 1}},
		"tile below a hole":    {W: 1, H: 2, Tiles: []int64{-2, 0}},
	}
	last := drawnStamp(rand.New(rand.NewSource(3)), 8, 8, 10)
	last.Tiles[63] = math.MinInt64
	out["last tile the least"] = last
	return out
}

// checkTilesMemory asks whether what a call makes of lists of tiles shares memory with one of them, or with an earlier answer.
func checkTilesMemory(t *testing.T, of string, lists [][]int64, call func(lists [][]int64) []int64) {
	t.Helper()
	var in, before, rooms [][]int64
	for _, list := range lists {
		part, room := inRoom(list, 55)
		in, before, rooms = append(in, part), append(before, slices.Clone(room)), append(rooms, room)
	}
	same := func() bool { return slices.EqualFunc(before, rooms, slices.Equal[[]int64]) }
	first, again := call(in), call(in)
	want := slices.Clone(again)
	if !same() {
		t.Errorf("%s: what was handed in is turned", of)
	}
	for i := range first[:cap(first)] {
		first[:cap(first)][i] = 77
	}
	if !same() {
		t.Errorf("%s: the answer shares memory with what was handed in", of)
	}
	for _, room := range rooms {
		for i := range room {
			room[i] = 66
		}
	}
	if len(want) == 0 || !slices.Equal(again, want) {
		t.Errorf("%s: the other answer is %v now, it was %v", of, again, want)
	}
}
