package tests

import (
	"testing"

	"loop.example/g00635/impl"
)

// Each W and H from -2 to two beyond MaxSide, with as many tiles as their product, where that is a number of tiles.
func TestStampRightLengths(t *testing.T) {
	for w := int64(-2); w <= impl.MaxSide+2; w++ {
		for h := int64(-2); h <= impl.MaxSide+2; h++ {
			s := impl.Stamp{W: w, H: h, Tiles: make([]int64, max(0, w*h))}
			want := within(w, 1, impl.MaxSide) && within(h, 1, impl.MaxSide)
			if got := impl.StampRight(s); got != want {
				t.Errorf("%d by %d: got %v", w, h, got)
			}
		}
	}
}

func TestStampRightWrongLengths(t *testing.T) {
	for _, wrong := range wrongLengths() {
		for _, other := range append(wrongLengths(), 1, 2, 4, 8) {
			// Of great numbers this is what is left of their product once it has wrapped.
			size := max(0, min(wrong*other, impl.MaxList))
			for _, tiles := range [][]int64{nil, make([]int64, 1), make([]int64, 64), make([]int64, size)} {
				if impl.StampRight(impl.Stamp{W: wrong, H: other, Tiles: tiles}) || impl.StampRight(impl.Stamp{W: other, H: wrong, Tiles: tiles}) {
					t.Errorf("%d and %d with %d tiles: is right", wrong, other, len(tiles))
				}
			}
		}
	}
}

func TestStampRightCountsTiles(t *testing.T) {
	for w := int64(1); w <= impl.MaxSide; w++ {
		for h := int64(1); h <= impl.MaxSide; h++ {
			for size := range int64(80) {
				s := impl.Stamp{W: w, H: h, Tiles: make([]int64, size)}
				if got := impl.StampRight(s); got != (size == w*h) {
					t.Errorf("%d by %d with %d tiles: got %v", w, h, size, got)
				}
			}
		}
	}
}

func TestStampRightTiles(t *testing.T) {
	eachStamp(func(s impl.Stamp) {
		if !impl.StampRight(s) {
			t.Errorf("%+v: is not right", s)
		}
		for at := range s.Tiles {
			turned := copyStamp(s)
			for _, tile := range append(rightTiles(), -1) {
				turned.Tiles[at] = tile
				if !impl.StampRight(turned) {
					t.Errorf("tile %d at %d of %d by %d: is not right", tile, at, s.W, s.H)
				}
			}
			for _, tile := range wrongTiles() {
				turned.Tiles[at] = tile
				if tile != -1 && impl.StampRight(turned) {
					t.Errorf("tile %d at %d of %d by %d: is right", tile, at, s.W, s.H)
				}
			}
			turned.Tiles[at] = -2
			if impl.StampRight(turned) {
				t.Errorf("tile -2 at %d of %d by %d: is right", at, s.W, s.H)
			}
		}
	})
}

func TestStampRightWrongStamps(t *testing.T) {
	for name, s := range wrongStamps() {
		if impl.StampRight(s) {
			t.Errorf("%s: is right", name)
		}
	}
}
