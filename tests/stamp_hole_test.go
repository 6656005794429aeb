package tests

import (
	"fmt"
	"testing"

	"loop.example/g00635/impl"
)

func TestStampHoleByHand(t *testing.T) {
	for _, c := range []struct {
		of   string
		tile int64
		want string
	}{
		{"12 21", 1, ".2 2."},
		{"12 21", 2, "1. .1"},
		{"12 21", 3, "12 21"},
		{"000", 0, "..."},
		{"0 9", 9, "0 ."},
		{"0 9", 0, ". 9"},
		{".1. 111", 1, "... ..."},
		{"... ...", 0, "... ..."},
		{"12 21", -1, "12 21"},
		{".2 21", -1, ".2 21"},
		{".2 21", 10, ".2 21"},
	} {
		if got := impl.StampHole(stampOf(c.of), c.tile); !likeStamp(got, stampOf(c.want)) {
			t.Errorf("%q, tile %d: got %+v, want %q", c.of, c.tile, got, c.want)
		}
	}
}

func TestStampHoleEachTile(t *testing.T) {
	eachStamp(func(s impl.Stamp) {
		before := copyStamp(s)
		for _, tile := range append(rightTiles(), wrongTiles()...) {
			got := impl.StampHole(s, tile)
			if got.W != s.W || got.H != s.H || len(got.Tiles) != len(s.Tiles) || !impl.StampRight(got) {
				t.Fatalf("%+v, tile %d: got %+v", s, tile, got)
			}
			for i, was := range before.Tiles {
				want := was
				if was == tile {
					want = -1
				}
				if got.Tiles[i] != want {
					t.Fatalf("%+v, tile %d: tile %d is %d, want %d", s, tile, i, got.Tiles[i], want)
				}
			}
		}
		if !likeStamp(s, before) {
			t.Fatalf("%+v: is turned", before)
		}
	})
}

// One that is not right stays as it is, also where it has the tile.
func TestStampHoleWrongStamps(t *testing.T) {
	for name, s := range wrongStamps() {
		before := copyStamp(s)
		for _, tile := range append(rightTiles(), wrongTiles()...) {
			if got := impl.StampHole(s, tile); !likeStamp(got, before) {
				t.Errorf("%s, tile %d: got %+v", name, tile, got)
			}
		}
		if !likeStamp(s, before) {
			t.Errorf("%s: is turned", name)
		}
	}
}

// Also where the Stamp is handed back as it is.
func TestStampHoleIsNewMemory(t *testing.T) {
	s := stampOf("1.2 .34")
	for _, tile := range []int64{1, 7, -1, 10} {
		for _, w := range []int64{3, 2, 0, -1, 9} {
			checkTilesMemory(t, fmt.Sprint(w, " wide, tile ", tile), [][]int64{s.Tiles}, func(lists [][]int64) []int64 {
				return impl.StampHole(impl.Stamp{W: w, H: 2, Tiles: lists[0]}, tile).Tiles
			})
		}
	}
}
