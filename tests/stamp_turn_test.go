package tests

import (
	"fmt"
	"math"
	"testing"

	"loop.example/g00635/impl"
)

func wrongQuarters() []int64 {
	return []int64{-1, 4, -2, -3, -4, 5, 7, 8, 1 << 32, 1<<32 + 1, math.MinInt64, math.MinInt64 + 1, math.MaxInt64}
}

func TestStampTurnByHand(t *testing.T) {
	for of, want := range map[string][4]string{
		"3":       {"3", "3", "3", "3"},
		".":       {".", ".", ".", "."},
		"12":      {"12", "1 2", "21", "2 1"},
		"1 2":     {"1 2", "21", "2 1", "12"},
		"12 34":   {"12 34", "31 42", "43 21", "24 13"},
		"123 456": {"123 456", "41 52 63", "654 321", "36 25 14"},
		"1.3 ...": {"1.3 ...", ".1 .. .3", "... 3.1", "3. .. 1."},
	} {
		for quarters, text := range want {
			if got := impl.StampTurn(stampOf(of), int64(quarters)); !rightStampOut(got, stampOf(text)) {
				t.Errorf("%q by %d: got %+v, want %q", of, quarters, got, text)
			}
		}
	}
}

func TestStampTurnLikeModel(t *testing.T) {
	eachStamp(func(s impl.Stamp) {
		before := copyStamp(s)
		for quarters := range int64(4) {
			got := impl.StampTurn(s, quarters)
			if want := modelStampTurn(s, quarters); !rightStampOut(got, want) {
				t.Fatalf("%+v by %d: got %+v, want %+v", s, quarters, got, want)
			}
		}
		if !likeStamp(s, before) {
			t.Fatalf("%+v: is turned itself", before)
		}
	})
}

// The words of the document: of one quarter, what was left is above; a map that is cut out whole is turned as Turn does.
func TestStampTurnIsTurn(t *testing.T) {
	for _, side := range rightSides() {
		for _, g := range someGrids(side) {
			s := impl.StampOf(g, 0, 0, side, side).Stamp
			for quarters := range int64(4) {
				got, want := impl.StampTurn(s, quarters), impl.Turn(g, quarters).Grid
				if !rightStampOut(got, impl.Stamp{W: side, H: side, Tiles: want.Tiles}) {
					t.Fatalf("%+v by %d: got %+v", g, quarters, got)
				}
			}
		}
	}
}

func TestStampTurnForm(t *testing.T) {
	for _, quarters := range wrongQuarters() {
		eachStamp(func(s impl.Stamp) {
			if got := impl.StampTurn(s, quarters); !onlyStampCode(got, impl.ErrForm) {
				t.Errorf("%+v by %d: got %+v", s, quarters, got)
			}
		})
	}
	for name, s := range wrongStamps() {
		for _, quarters := range append(wrongQuarters(), 0, 1, 2, 3) {
			if got := impl.StampTurn(s, quarters); !onlyStampCode(got, impl.ErrForm) {
				t.Errorf("%s by %d: got %+v", name, quarters, got)
			}
		}
	}
}

func TestStampTurnIsNewMemory(t *testing.T) {
	for quarters := range int64(4) {
		for _, s := range []impl.Stamp{stampOf("1.2 .34"), stampOf("5"), stampOf("12345678")} {
			checkTilesMemory(t, fmt.Sprint(s, " by ", quarters), [][]int64{s.Tiles}, func(lists [][]int64) []int64 {
				return impl.StampTurn(impl.Stamp{W: s.W, H: s.H, Tiles: lists[0]}, quarters).Stamp.Tiles
			})
		}
	}
}
