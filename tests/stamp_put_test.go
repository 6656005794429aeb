package tests

import (
	"fmt"
	"math"
	"math/rand"
	"slices"
	"testing"

	"loop.example/g00635/impl"
)

func checkStampPut(t *testing.T, g impl.Grid, s impl.Stamp, x, y int64) {
	t.Helper()
	beforeGrid, beforeStamp := copyGrid(g), copyStamp(s)
	got := impl.StampPut(g, s, x, y)
	if want := modelPutStamp(g, s, x, y); got.Code != impl.OK || !likeGrid(got.Grid, want) {
		t.Fatalf("%+v at %d %d of %+v: got %+v, want %+v", s, x, y, g, got, want)
	}
	if !likeGrid(g, beforeGrid) || !likeStamp(s, beforeStamp) {
		t.Fatalf("%+v at %d %d: what was handed in is turned", beforeStamp, x, y)
	}
}

func TestStampPutByHand(t *testing.T) {
	for _, c := range []struct {
		name, of, stamp string
		x, y            int64
		want            string
	}{
		{"wholly in", "0000\n0000\n0000\n0000\n", "12 34", 1, 1, "0000\n0120\n0340\n0000\n"},
		{"wide", "0000\n0000\n0000\n0000\n", "123", 1, 2, "0000\n0000\n0123\n0000\n"},
		{"high", "0000\n0000\n0000\n0000\n", "1 2 3", 2, 1, "0000\n0010\n0020\n0030\n"},
		{"all", "00\n00\n", "12 34", 0, 0, "12\n34\n"},
		{"a hole", "5555\n5555\n5555\n5555\n", "12. .34", 0, 1, "5555\n1255\n5345\n5555\n"},
		{"a first hole", "55\n55\n", ".1", 0, 0, "51\n55\n"},
		{"a last hole", "55\n55\n", "1.", 0, 1, "55\n15\n"},
		{"holes alone", "12\n34\n", ".. ..", 0, 0, "12\n34\n"},
		{"over the left", "0000\n0000\n0000\n0000\n", "123 456", -1, 1, "0000\n2300\n5600\n0000\n"},
		{"over the right", "0000\n0000\n0000\n0000\n", "123 456", 2, 1, "0000\n0012\n0045\n0000\n"},
		{"over what is above", "0000\n0000\n0000\n0000\n", "12 34 56", 1, -1, "0340\n0560\n0000\n0000\n"},
		{"over what is below", "0000\n0000\n0000\n0000\n", "12 34 56", 1, 2, "0000\n0000\n0120\n0340\n"},
		{"left above", "0000\n0000\n0000\n0000\n", "12 34", -1, -1, "4000\n0000\n0000\n0000\n"},
		{"right above", "0000\n0000\n0000\n0000\n", "12 34", 3, -1, "0003\n0000\n0000\n0000\n"},
		{"left below", "0000\n0000\n0000\n0000\n", "12 34", -1, 3, "0000\n0000\n0000\n2000\n"},
		{"right below", "0000\n0000\n0000\n0000\n", "12 34", 3, 3, "0000\n0000\n0000\n0001\n"},
		{"greater than the map", "00\n00\n", "1234 5678 9123 4567", -1, -2, "12\n56\n"},
		{"beside the left", "00\n00\n", "12 34", -2, 0, "00\n00\n"},
		{"beside the right", "00\n00\n", "12 34", 2, 0, "00\n00\n"},
		{"above", "00\n00\n", "12 34", 0, -2, "00\n00\n"},
		{"below", "00\n00\n", "12 34", 0, 2, "00\n00\n"},
		{"far off", "00\n00\n", "12 34", -8, 8, "00\n00\n"},
		{"a wall, and nothing", "55\n55\n", "90", 0, 0, "90\n55\n"},
	} {
		got := impl.StampPut(gridOf(c.of), stampOf(c.stamp), c.x, c.y)
		if got.Code != impl.OK || impl.GridText(got.Grid) != c.want {
			t.Errorf("%s: got %q, code %d, want %q", c.name, impl.GridText(got.Grid), got.Code, c.want)
		}
	}
}

// Each place from -8 to 8, of Stamps of each W and H, onto a map of each side.
func TestStampPutAtEachPlace(t *testing.T) {
	r := rand.New(rand.NewSource(1))
	for _, side := range rightSides() {
		g := mixed(side, 3)
		for x := int64(-8); x <= 8; x++ {
			for y := int64(-8); y <= 8; y++ {
				for range 6 {
					checkStampPut(t, g, drawnStamp(r, 1+r.Int63n(8), 1+r.Int63n(8), r.Intn(60)), x, y)
				}
				checkStampPut(t, g, drawnStamp(r, 8, 8, 0), x, y)
				checkStampPut(t, g, drawnStamp(r, 1, 1, 0), x, y)
			}
		}
	}
	eachStamp(func(s impl.Stamp) {
		for _, side := range rightSides() {
			checkStampPut(t, mixed(side, 5), s, r.Int63n(17)-8, r.Int63n(17)-8)
			checkStampPut(t, mixed(side, 5), s, 0, 0)
		}
	})
}

func TestStampPutRange(t *testing.T) {
	s := stampOf("12 34")
	for _, side := range rightSides() {
		g := mixed(side, 2)
		for _, wrong := range []int64{-9, 9, -10, 10, -16, 16, 1 << 32, -1 << 32, 1<<32 + 1, math.MinInt64, math.MinInt64 + 1, math.MaxInt64 - 1, math.MaxInt64} {
			for _, other := range []int64{-9, -8, -1, 0, 1, 8, 9, wrong} {
				if got := impl.StampPut(g, s, wrong, other); !onlyCode(got, impl.ErrRange) {
					t.Errorf("side %d at %d %d: got %+v", side, wrong, other, got)
				}
				if got := impl.StampPut(g, s, other, wrong); !onlyCode(got, impl.ErrRange) {
					t.Errorf("side %d at %d %d: got %+v", side, other, wrong, got)
				}
			}
		}
		for _, x := range []int64{-8, 8} {
			for _, y := range []int64{-8, 0, 8} {
				checkStampPut(t, g, s, x, y)
				checkStampPut(t, g, s, y, x)
			}
		}
	}
}

// What is not right is told ahead of a place that may not be.
func TestStampPutForm(t *testing.T) {
	for _, at := range [][2]int64{{0, 0}, {-8, 8}, {9, 0}, {0, -9}, {math.MinInt64, math.MaxInt64}} {
		for name, g := range wrongGrids() {
			if got := impl.StampPut(g, stampOf("12 34"), at[0], at[1]); !onlyCode(got, impl.ErrForm) {
				t.Errorf("%s at %v: got %+v", name, at, got)
			}
			if got := impl.StampPut(g, impl.Stamp{}, at[0], at[1]); !onlyCode(got, impl.ErrForm) {
				t.Errorf("%s and the zero Stamp at %v: got %+v", name, at, got)
			}
		}
		for name, s := range wrongStamps() {
			for _, side := range rightSides() {
				if got := impl.StampPut(mixed(side, 0), s, at[0], at[1]); !onlyCode(got, impl.ErrForm) {
					t.Errorf("%s at %v of side %d: got %+v", name, at, side, got)
				}
			}
		}
	}
}

func TestStampPutIsNewMemory(t *testing.T) {
	s := stampOf("1.2 .34 567")
	for _, at := range [][2]int64{{0, 0}, {-1, 2}, {3, 3}, {4, 0}, {-8, -8}, {8, 8}} {
		checkTilesMemory(t, fmt.Sprint(at), [][]int64{mixed(4, 1).Tiles, s.Tiles}, func(lists [][]int64) []int64 {
			return impl.StampPut(impl.Grid{Side: 4, Tiles: lists[0]}, impl.Stamp{W: 3, H: 3, Tiles: lists[1]}, at[0], at[1]).Grid.Tiles
		})
	}
}

// A map may be its own Stamp: what is put must not be read where it was put.
func TestStampPutOfItself(t *testing.T) {
	tiles := slices.Clone(mixed(4, 6).Tiles)
	checkStampPut(t, impl.Grid{Side: 4, Tiles: tiles}, impl.Stamp{W: 4, H: 4, Tiles: tiles}, 1, 1)
	checkStampPut(t, impl.Grid{Side: 4, Tiles: tiles}, impl.Stamp{W: 8, H: 2, Tiles: tiles}, -1, 1)
}
