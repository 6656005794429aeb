package tests

import (
	"testing"

	"loop.example/g00635/impl"
)

func TestHistNew(t *testing.T) {
	for _, side := range rightSides() {
		got := impl.HistNew(side)
		want := impl.Hist{Side: side, Pool: poolOf(leaf(0)), Versions: []impl.Version{version(-1, -1, 0)}, Branches: []impl.Branch{branch("main", 0)}}
		if !likeHistOut(got, impl.HistOut{Hist: want}) || !impl.HistRight(got.Hist) {
			t.Errorf("side %d: got %+v", side, got)
		}
		if g := impl.Grown(got.Hist, "main"); g.Code != impl.OK || !likeGrid(g.Grid, impl.GridNew(side, 0).Grid) {
			t.Errorf("side %d: grown is %+v", side, g)
		}
		scribble(got.Hist)
		if again := impl.HistNew(side); !likeHist(again.Hist, want) {
			t.Errorf("side %d: got %+v behind another one", side, again)
		}
	}
	for _, side := range wrongSides() {
		if got := impl.HistNew(side); !onlyHistCode(got, impl.ErrForm) {
			t.Errorf("side %d: got %+v", side, got)
		}
	}
}

func TestGrownByHand(t *testing.T) {
	for name, want := range map[string]string{
		"a":    "0500\n9000\n0055\n0055\n",
		"b_2":  "0000\n0000\n0000\n0000\n",
		"main": "0055\n0055\n9900\n9900\n",
	} {
		got := impl.Grown(family(), name)
		if text := impl.GridText(got.Grid); got.Code != impl.OK || text != want {
			t.Errorf("%s: got %q, code %d", name, text, got.Code)
		}
	}
}

func TestGrownOfEachHist(t *testing.T) {
	for of, h := range someHists() {
		before := copyHist(h)
		for _, name := range callNames() {
			got, want := impl.Grown(h, name), modelGrown(h, name)
			if got.Code != want.Code || !likeGrid(got.Grid, want.Grid) {
				t.Errorf("%s, %.30q: got %+v, want %+v", of, name, got, want)
			}
		}
		if !likeHist(h, before) {
			t.Errorf("%s: what was handed in is turned", of)
		}
	}
}

func TestGrownCodes(t *testing.T) {
	for _, name := range []string{"none", "", "MAIN", "mai", "main0", "main ", "b", longName(21), longName(impl.MaxBytes)} {
		if got := impl.Grown(family(), name); !onlyCode(got, impl.ErrNone) {
			t.Errorf("%.30q: got %+v", name, got)
		}
	}
	for of, h := range wrongHists() {
		for _, name := range []string{"main", "a", "none", "", longName(impl.MaxBytes)} {
			if got := impl.Grown(h, name); !onlyCode(got, impl.ErrForm) {
				t.Errorf("%s, %.30q: got %+v", of, name, got)
			}
		}
		if got := impl.Grown(h, longName(impl.MaxBytes+1)); !onlyCode(got, impl.ErrSize) {
			t.Errorf("%s, a name too long: got %+v", of, got)
		}
	}
}

func TestGrownIsNewMemory(t *testing.T) {
	r := roomyOf(family())
	before := r.text()
	got, again := impl.Grown(r.h, "a"), impl.Grown(r.h, "a")
	want := copyGrid(again.Grid)
	tiles := got.Grid.Tiles[:cap(got.Grid.Tiles)]
	for i := range tiles {
		tiles[i] = 77
	}
	if r.text() != before {
		t.Error("the answer shares memory with what was handed in")
	}
	scribble(r.h)
	if !likeGrid(again.Grid, want) {
		t.Errorf("got %+v, want %+v", again.Grid, want)
	}
}
