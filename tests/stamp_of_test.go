package tests

import (
	"fmt"
	"math"
	"testing"

	"loop.example/g00635/impl"
)

func TestStampOfByHand(t *testing.T) {
	g := gridOf("0123\n4567\n8901\n2345\n")
	for _, c := range []struct {
		name       string
		x, y, w, h int64
		want       string
	}{
		{"whole", 0, 0, 4, 4, "0123 4567 8901 2345"},
		{"first tile", 0, 0, 1, 1, "0"},
		{"last tile", 3, 3, 1, 1, "5"},
		{"right above", 3, 0, 1, 1, "3"},
		{"left below", 0, 3, 1, 1, "2"},
		{"row", 0, 1, 4, 1, "4567"},
		{"last row", 0, 3, 4, 1, "2345"},
		{"column", 1, 0, 1, 4, "1 5 9 3"},
		{"last column", 3, 0, 1, 4, "3 7 1 5"},
		{"wide", 1, 2, 3, 1, "901"},
		{"high", 2, 1, 1, 3, "6 0 4"},
		{"two by three", 1, 1, 2, 3, "56 90 34"},
		{"three by two", 1, 2, 3, 2, "901 345"},
	} {
		if got := impl.StampOf(g, c.x, c.y, c.w, c.h); !rightStampOut(got, stampOf(c.want)) {
			t.Errorf("%s: got %+v, want %s", c.name, got, c.want)
		}
	}
}

// Each place from -2 to two beyond the side, with each size from -2 to two more than it, is cut out or refused.
func TestStampOfEachPart(t *testing.T) {
	for _, side := range rightSides() {
		g := mixed(side, 4)
		before := copyGrid(g)
		for x := int64(-2); x <= side+2; x++ {
			for y := int64(-2); y <= side+2; y++ {
				for w := int64(-2); w <= side+2; w++ {
					for h := int64(-2); h <= side+2; h++ {
						got := impl.StampOf(g, x, y, w, h)
						want, inside := modelCut(g, x, y, w, h)
						if inside && !rightStampOut(got, want) || !inside && !onlyStampCode(got, impl.ErrRange) {
							t.Fatalf("side %d, %d %d %d %d: got %+v, want %+v, %v", side, x, y, w, h, got, want, inside)
						}
					}
				}
			}
		}
		if !likeGrid(g, before) {
			t.Errorf("side %d: the map is turned", side)
		}
	}
}

func TestStampOfOverEachEdgeByOne(t *testing.T) {
	g := mixed(4, 0)
	for name, part := range map[string][4]int64{
		"left": {-1, 1, 2, 2}, "above": {1, -1, 2, 2}, "right": {3, 1, 2, 2}, "below": {1, 3, 2, 2},
		"wide": {0, 0, 5, 4}, "high": {0, 0, 4, 5}, "all but moved right": {1, 0, 4, 4}, "all but moved down": {0, 1, 4, 4},
		"no width": {1, 1, 0, 1}, "no height": {1, 1, 1, 0}, "nothing behind the last column": {4, 0, 0, 1}, "nothing below": {0, 4, 1, 0},
		"width below 0": {3, 1, -1, 1}, "height below 0": {1, 3, 1, -1},
	} {
		if got := impl.StampOf(g, part[0], part[1], part[2], part[3]); !onlyStampCode(got, impl.ErrRange) {
			t.Errorf("%s: got %+v", name, got)
		}
	}
}

func TestStampOfGreatNumbers(t *testing.T) {
	g := mixed(8, 0)
	great := []int64{math.MinInt64, math.MinInt64 + 1, math.MinInt64 + 7, -1 << 62, -1 << 32, 1 << 32, 1 << 61, 1 << 62, math.MaxInt64 - 7, math.MaxInt64 - 1, math.MaxInt64}
	all := append([]int64{-1, 0, 1, 7, 8}, great...)
	for _, a := range great {
		for _, b := range all {
			for _, c := range [][4]int64{{a, 0, b, 1}, {b, 0, a, 1}, {0, a, 1, b}, {0, b, 1, a}, {a, a, b, b}, {b, b, a, a}} {
				if got := impl.StampOf(g, c[0], c[1], c[2], c[3]); !onlyStampCode(got, impl.ErrRange) {
					t.Errorf("%v: got %+v", c, got)
				}
			}
		}
	}
}

// A map that is not right is told ahead of a part that may not be.
func TestStampOfForm(t *testing.T) {
	for name, g := range wrongGrids() {
		for _, r := range append(badRectangles(), [4]int64{0, 0, 1, 1}) {
			if got := impl.StampOf(g, r[0], r[1], r[2], r[3]); !onlyStampCode(got, impl.ErrForm) {
				t.Errorf("%s, %v: got %+v", name, r, got)
			}
		}
	}
}

func TestStampOfIsNewMemory(t *testing.T) {
	for _, part := range [][4]int64{{0, 0, 4, 4}, {1, 1, 2, 2}, {0, 1, 4, 1}, {0, 0, 1, 1}, {3, 0, 1, 4}} {
		checkTilesMemory(t, fmt.Sprint(part), [][]int64{mixed(4, 1).Tiles}, func(lists [][]int64) []int64 {
			return impl.StampOf(impl.Grid{Side: 4, Tiles: lists[0]}, part[0], part[1], part[2], part[3]).Stamp.Tiles
		})
	}
}
