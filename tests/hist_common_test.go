package tests

import (
	"math"
	"testing"

	"loop.example/g00635/impl"
)

func TestCommonByHand(t *testing.T) {
	for _, c := range []struct {
		name       string
		a, b, want int64
	}{
		{"the first with itself", 0, 0, 0},
		{"one with itself", 5, 5, 5},
		{"one of two parents with itself", 7, 7, 7},
		{"one and what comes from it", 1, 6, 1},
		{"one and the next by Parent", 2, 4, 2},
		{"one and the next by Other", 1, 5, 1},
		{"one and what comes by Other alone", 5, 7, 5},
		{"by Other, and on by Parent", 4, 7, 4},
		{"the first and any", 0, 7, 0},
		{"two that part at the first", 1, 2, 0},
		{"two that part, one further", 1, 4, 0},
		{"two that part late", 6, 7, 3},
		{"by Other of the one, Parent of the other", 3, 4, 2},
		{"two in common, by Parent and by Other, the greater one", 3, 5, 2},
		{"two in common, further behind", 6, 5, 2},
	} {
		h := family()
		if got := impl.Common(h, c.a, c.b); got != c.want {
			t.Errorf("%s, %d and %d: got %d, want %d", c.name, c.a, c.b, got, c.want)
		}
		if got := impl.Common(h, c.b, c.a); got != c.want {
			t.Errorf("%s, %d and %d: got %d, want %d", c.name, c.b, c.a, got, c.want)
		}
		if !likeHist(h, family()) {
			t.Errorf("%s: what was handed in is turned", c.name)
		}
	}
}

func TestCommonOfEachTwo(t *testing.T) {
	for of, h := range someHists() {
		for a := range int64(len(h.Versions)) {
			for b := range int64(len(h.Versions)) {
				if got, want := impl.Common(h, a, b), modelCommon(h, a, b); got != want || got < 0 {
					t.Errorf("%s, %d and %d: got %d, want %d", of, a, b, got, want)
				}
			}
		}
	}
}

// woven is of as many Versions as may be, each with both parents just ahead of it: the ways back are very many.
func woven() impl.Hist {
	h := line(impl.MaxVersions, 0)
	for i := 2; i < impl.MaxVersions; i++ {
		h.Versions[i].Other = int64(i - 2)
	}
	return h
}

func TestCommonOfWoven(t *testing.T) {
	h := woven()
	for a := range int64(impl.MaxVersions) {
		for b := range int64(impl.MaxVersions) {
			if got := impl.Common(h, a, b); got != min(a, b) {
				t.Errorf("%d and %d: got %d", a, b, got)
			}
		}
	}
}

func TestCommonOfNone(t *testing.T) {
	h := family()
	for _, no := range []int64{-1, -2, 8, 9, 14, math.MinInt64, math.MaxInt64} {
		for a := int64(-1); a <= 8; a++ {
			if got := impl.Common(h, a, no); got != -1 {
				t.Errorf("%d and %d: got %d", a, no, got)
			}
			if got := impl.Common(h, no, a); got != -1 {
				t.Errorf("%d and %d: got %d", no, a, got)
			}
		}
		if got := impl.Common(h, no, no); got != -1 {
			t.Errorf("%d twice: got %d", no, got)
		}
	}
	for of, h := range wrongHists() {
		for a := int64(-1); a < 3; a++ {
			if got := impl.Common(h, a, 0); got != -1 {
				t.Errorf("%s, %d and 0: got %d", of, a, got)
			}
		}
	}
}
