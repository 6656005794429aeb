package tests

import (
	"fmt"
	"regexp"
	"strings"
	"testing"

	"loop.example/g00635/impl"
)

// toldForms is what a line of that word may tell.
func toldForms() map[string]*regexp.Regexp {
	forms := map[string]string{"show": `[0-9]{4}(/[0-9]{4}){3}`, "size": `[0-9]+ [0-9]+`, "way": `[0-9]+ [0-9]+|error [0-9]+`, "join": `clashes [0-9]+|error [0-9]+`, "prune": `ok`}
	out := map[string]*regexp.Regexp{}
	for word := range rightLines() {
		form, other := forms[word]
		if !other {
			form = `ok|error [0-9]+`
		}
		out[word] = regexp.MustCompile(`^(` + form + `)$`)
	}
	return out
}

// Promise 13: each line of a desk tells a line, one by one.
func TestEachLineTellsALine(t *testing.T) {
	forms, counts := toldForms(), map[string]int{}
	for seed := range int64(400) {
		lines := drawnLines(seed, int(seed)%(impl.MaxDesk+1))
		got := impl.DeskRun(deskLines(lines...))
		if got.Code != impl.OK || got.Line != 0 || strings.Count(got.Text, "\n") != len(lines) {
			t.Fatalf("%q: got %+v", lines, got)
		}
		told := strings.SplitAfter(got.Text, "\n")
		for i, l := range lines {
			word, _, _ := strings.Cut(l, " ")
			counts[word]++
			if !forms[word].MatchString(strings.TrimSuffix(told[i], "\n")) {
				t.Fatalf("%q: line %d tells %q", lines, i, told[i])
			}
			if first := impl.DeskRun(deskLines(lines[:i]...)); first != (impl.DeskOut{Text: strings.Join(told[:i], "")}) {
				t.Fatalf("%q: the first %d tell %+v, all tell %q", lines, i, first, got.Text)
			}
		}
	}
	for word := range forms {
		if counts[word] < 50 {
			t.Errorf("%s was drawn %d times", word, counts[word])
		}
	}
}

// A line that is none takes what the lines ahead of it, and behind it, would tell.
func TestNothingIsToldBesideAFault(t *testing.T) {
	for seed := range int64(100) {
		lines := drawnLines(seed, impl.MaxDesk-1)
		at := int(seed) % len(lines)
		text := deskLines(lines[:at]...) + "none\n" + deskLines(lines[at:]...)
		checkDeskRefused(t, fmt.Sprint("drawn ", seed), text, wrongLine(at))
	}
}

// tileSquare is a rectangle, and the tile that is drawn there.
type tileSquare struct {
	x, y, w, h, tile int
}

func (s tileSquare) line() string {
	return fmt.Sprintf("fill %d %d %d %d %d", s.x, s.y, s.w, s.h, s.tile)
}

func (s tileSquare) has(x, y int) bool {
	return x >= s.x && x < s.x+s.w && y >= s.y && y < s.y+s.h
}

// allSquares are all rectangles of a map of 4, of that tile.
func allSquares(tile int) []tileSquare {
	var out []tileSquare
	for at := range 16 {
		x, y := at%4, at/4
		for w := 1; w <= 4-x; w++ {
			for h := 1; h <= 4-y; h++ {
				out = append(out, tileSquare{x, y, w, h, tile})
			}
		}
	}
	return out
}

// bothDrawn is what two that draw on a plain map make of it, and how many places both drew.
func bothDrawn(stays tileSquare, comes tileSquare) (string, int) {
	text, both := "", 0
	for at := range 16 {
		x, y := at%4, at/4
		switch {
		case stays.has(x, y):
			text += fmt.Sprint(stays.tile)
		case comes.has(x, y):
			text += fmt.Sprint(comes.tile)
		default:
			text += "0"
		}
		if stays.has(x, y) && comes.has(x, y) && stays.tile != comes.tile {
			both++
		}
		if x == 3 && y < 3 {
			text += "/"
		}
	}
	return text, both
}

// Promise 14: two draw beside each other, and what both did stands in the map that they are joined to; where both drew,
// the one stays, and it is told.
func TestTwoDraw(t *testing.T) {
	beside, over, alike := 0, 0, 0
	others := append(allSquares(6), allSquares(5)...)
	for i, onMain := range allSquares(5) {
		for j, onB := range others {
			if (i+j)%7 != 0 {
				continue
			}
			staysMain, clashes := bothDrawn(onMain, onB)
			staysB, _ := bothDrawn(onB, onMain)
			alone, _ := bothDrawn(onB, onB)
			got := impl.DeskRun(deskLines("fork b", onMain.line(), "go b", onB.line(), "go main", "join b", "show", "join b", "go b", "show", "fork c", "go main", "undo", "go c", "join main", "show", "go b", "join main", "show"))
			told := fmt.Sprint("clashes ", clashes)
			want := deskLines("ok", "ok", "ok", "ok", "ok", told, staysMain, "error 10", "ok", alone, "ok", "ok", "ok", "ok", told, staysB, "ok", told, staysB)
			if got != (impl.DeskOut{Text: want}) {
				t.Fatalf("%+v and %+v:\ngot  %+v\nwant %q", onMain, onB, got, want)
			}
			switch {
			case clashes > 0:
				over++
			case onMain.tile == onB.tile:
				alike++
			default:
				beside++
			}
		}
	}
	if beside < 300 || over < 300 || alike < 300 {
		t.Errorf("%d drew beside each other, %d over one another, %d alike", beside, over, alike)
	}
}

// Each draws several times: what is joined is what came of it all, over what both began with.
func TestTwoDrawOnAndOn(t *testing.T) {
	squares := [2][]tileSquare{allSquares(5), allSquares(6)}
	for seed := range 200 {
		lines := []string{fmt.Sprintf("fill %d 0 2 4 3", seed%3), "fork b"}
		for i := range 8 {
			s := squares[i%2][(seed*37+i*i*13)%100]
			s.tile = 1 + (seed+i)%9
			lines = append(lines, []string{"go main", "go b"}[i%2], s.line())
		}
		lines = append(lines, "show", "go main", "show", "join b", "show", "undo", "undo", "join b", "show")
		text := deskLines(lines...)
		got := impl.DeskRun(text)
		if got != modelRun(text) {
			t.Fatalf("%q:\ngot  %+v\nwant %+v", text, got, modelRun(text))
		}
		told := strings.Split(got.Text, "\n")
		base, onB, onMain := told[0], told[18], told[20]
		if base != "ok" || len(onB) != 19 || len(onMain) != 19 {
			t.Fatalf("%q: got %+v", text, got)
		}
		clashes, joined := joinedShow(seed%3, onMain, onB)
		if told[21] != fmt.Sprint("clashes ", clashes) || told[22] != joined {
			t.Fatalf("%q: got %q, %q, want %d, %q", text, told[21], told[22], clashes, joined)
		}
	}
}

// joinedShow is the merge of two maps as `show` tells them, over one that has two columns, from that one on, of 3.
func joinedShow(from int, into string, other string) (int, string) {
	clashes, joined := 0, []byte(into)
	for at := range into {
		base := byte('0')
		if x := at % 5; x >= from && x < from+2 {
			base = '3'
		}
		if into[at] == '/' {
			continue
		}
		if into[at] == base {
			joined[at] = other[at]
		} else if other[at] != base && other[at] != into[at] {
			clashes++
		}
	}
	return clashes, string(joined)
}
