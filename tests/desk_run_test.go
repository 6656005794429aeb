package tests

import (
	"fmt"
	"strings"
	"testing"

	"loop.example/g00635/impl"
)

// deskTalk is what is said to a desk, and what it tells, in turn: line by line.
type deskTalk [][2]string

func (talk deskTalk) texts() (string, string) {
	var said, told []string
	for _, turn := range talk {
		said, told = append(said, turn[0]), append(told, turn[1])
	}
	return deskLines(said...), deskLines(told...)
}

// checkTold holds what is told against what is wanted, and against the model.
func checkTold(t *testing.T, name string, text string, want string) {
	t.Helper()
	got := impl.DeskRun(text)
	if got != (impl.DeskOut{Text: want}) {
		t.Errorf("%s: of %q:\ngot  %+v\nwant %q", name, text, got, want)
	}
	if model := modelRun(text); got != model {
		t.Errorf("%s: of %q:\ngot  %+v\nthe model says %+v", name, text, got, model)
	}
	if fault := impl.DeskFault(text); fault != (impl.DeskOut{}) {
		t.Errorf("%s: of %q: the fault is %+v", name, text, fault)
	}
}

const plainShow = "0000/0000/0000/0000"

// fills are so many fills that all change something.
func fills(count int) deskTalk {
	var talk deskTalk
	for i := range count {
		talk = append(talk, [2]string{fmt.Sprintf("fill 3 3 1 1 %d", 1+i%9), "ok"})
	}
	return talk
}

func talks() map[string]deskTalk {
	out := map[string]deskTalk{
		"nothing":              nil,
		"show of what is new":  {{"show", plainShow}},
		"size of what is new":  {{"size", "1 1"}},
		"prune of what is new": {{"prune", "ok"}, {"size", "1 1"}, {"show", plainShow}},
		"fill": {
			{"fill 0 0 1 1 5", "ok"}, {"show", "5000/0000/0000/0000"}, {"size", "2 4"},
			{"fill 3 0 1 4 9", "ok"}, {"show", "5009/0009/0009/0009"}, {"size", "3 7"},
			{"fill 1 2 2 1 7", "ok"}, {"show", "5009/0009/0779/0009"}, {"fill 0 0 4 4 1", "ok"}, {"show", "1111/1111/1111/1111"},
			{"fill 0 0 4 4 0", "ok"}, {"show", plainShow}, {"size", "6 12"},
		},
		"fill of what is no tile":     {{"fill 0 0 1 1 10", "error 1"}, {"fill 0 0 1 1 999999999", "error 1"}, {"fill 9 9 0 0 10", "error 1"}, {"size", "1 1"}},
		"fill beyond the map":         {{"fill 0 0 5 1 1", "error 8"}, {"fill 0 4 1 1 1", "error 8"}, {"fill 4 0 1 1 1", "error 8"}, {"fill 0 1 1 4 1", "error 8"}, {"fill 0 0 999999999 1 1", "error 8"}, {"show", plainShow}},
		"fill of nothing":             {{"fill 0 0 0 1 1", "error 8"}, {"fill 0 0 1 0 0", "error 8"}, {"size", "1 1"}},
		"fill that changes nothing":   {{"fill 0 0 4 4 0", "error 10"}, {"fill 1 1 2 2 3", "ok"}, {"fill 1 1 2 1 3", "error 10"}, {"size", "2 7"}},
		"fork":                        {{"fork b", "ok"}, {"size", "1 1"}, {"fill 0 0 1 1 5", "ok"}, {"go b", "ok"}, {"show", plainShow}, {"go main", "ok"}, {"show", "5000/0000/0000/0000"}},
		"fork of what was drawn":      {{"fill 0 0 1 1 5", "ok"}, {"fork b", "ok"}, {"fill 0 0 1 1 6", "ok"}, {"go b", "ok"}, {"show", "5000/0000/0000/0000"}},
		"fork to what is no name":     {{"fork B", "error 1"}, {"fork 1", "error 1"}, {"fork a-b", "error 1"}, {"fork \xff", "error 1"}, {"fork ä", "error 1"}, {"fork b\t", "error 1"}, {"fork b\r", "error 1"}, {"fork \x00", "error 1"}, {"go b", "error 6"}},
		"fork to names of all sizes":  {{"fork " + longName(20), "ok"}, {"fork " + longName(21), "error 1"}, {"fork a", "ok"}, {"go " + longName(20), "ok"}, {"go " + longName(21), "error 6"}},
		"fork to what is there":       {{"fork main", "error 7"}, {"fork b", "ok"}, {"fork b", "error 7"}, {"go b", "ok"}, {"fork b", "error 7"}, {"fork main", "error 7"}},
		"fork without room":           {{"fork b", "ok"}, {"fork c", "ok"}, {"fork d", "ok"}, {"fork e", "error 9"}, {"fork E", "error 1"}, {"fork d", "error 7"}, {"go e", "error 6"}, {"go d", "ok"}},
		"fork to words of the table":  {{"fork fork", "ok"}, {"go fork", "ok"}, {"fork go", "ok"}, {"go go", "ok"}, {"join fork", "error 10"}},
		"go to none":                  {{"go b", "error 6"}, {"go B", "error 6"}, {"go 0", "error 6"}, {"go Main", "error 6"}, {"go main\t", "error 6"}, {"fill 0 0 1 1 5", "ok"}, {"show", "5000/0000/0000/0000"}},
		"go to where one is":          {{"go main", "ok"}, {"go main", "ok"}, {"fill 0 0 1 1 5", "ok"}, {"show", "5000/0000/0000/0000"}},
		"undo":                        {{"undo", "error 10"}, {"fill 0 0 1 1 5", "ok"}, {"fill 0 0 1 1 6", "ok"}, {"undo", "ok"}, {"show", "5000/0000/0000/0000"}, {"undo", "ok"}, {"show", plainShow}, {"undo", "error 10"}, {"size", "3 7"}},
		"redo":                        {{"redo", "error 10"}, {"fill 0 0 1 1 5", "ok"}, {"redo", "error 10"}, {"fill 0 0 1 1 6", "ok"}, {"undo", "ok"}, {"undo", "ok"}, {"redo", "ok"}, {"show", "5000/0000/0000/0000"}, {"redo", "ok"}, {"show", "6000/0000/0000/0000"}, {"redo", "error 10"}, {"size", "3 7"}},
		"redo behind a new drawing":   {{"fill 0 0 1 1 5", "ok"}, {"undo", "ok"}, {"fill 0 0 1 1 6", "ok"}, {"redo", "error 10"}, {"show", "6000/0000/0000/0000"}, {"undo", "ok"}, {"redo", "ok"}, {"show", "6000/0000/0000/0000"}},
		"redo behind what is refused": {{"fill 0 0 1 1 5", "ok"}, {"undo", "ok"}, {"fill 0 0 1 1 0", "error 10"}, {"fill 0 0 1 1 10", "error 1"}, {"join main", "error 10"}, {"go b", "error 6"}, {"fork main", "error 7"}, {"way 4 4 4 4", "error 8"}, {"redo", "ok"}, {"show", "5000/0000/0000/0000"}},
		"undo on a fork":              {{"fill 0 0 1 1 5", "ok"}, {"fork b", "ok"}, {"go b", "ok"}, {"undo", "ok"}, {"show", plainShow}, {"go main", "ok"}, {"redo", "error 10"}, {"show", "5000/0000/0000/0000"}, {"go b", "ok"}, {"redo", "ok"}, {"show", "5000/0000/0000/0000"}},
		"fork does not take the redo": {{"fill 0 0 1 1 5", "ok"}, {"undo", "ok"}, {"fork b", "ok"}, {"go b", "ok"}, {"redo", "error 10"}, {"go main", "ok"}, {"redo", "ok"}},
		"join with none":              {{"join b", "error 6"}, {"join B", "error 6"}, {"join 1", "error 6"}, {"join " + longName(21), "error 6"}},
		"join with nothing to join":   {{"join main", "error 10"}, {"fork b", "ok"}, {"join b", "error 10"}, {"fill 0 0 1 1 5", "ok"}, {"join b", "error 10"}, {"size", "2 4"}},
	}
	for name, talk := range joinTalks() {
		out[name] = talk
	}
	for name, talk := range wayTalks() {
		out[name] = talk
	}
	out["no room for a fill"] = append(fills(13), deskTalk{{"size", "14 28"}, {"fill 0 0 1 1 5", "error 9"}, {"fill 3 3 1 1 4", "error 10"}, {"fill 4 4 1 1 4", "error 8"}, {"fill 0 0 1 1 10", "error 1"}, {"size", "14 28"}, {"show", "0000/0000/0000/0004"}, {"undo", "ok"}, {"fill 0 0 1 1 5", "error 9"}, {"redo", "ok"}, {"redo", "error 10"}, {"prune", "ok"}, {"fill 0 0 1 1 5", "error 9"}}...)
	out["no room for a join"] = append(append(deskTalk{{"fork b", "ok"}}, fills(13)...), deskTalk{{"join b", "error 10"}, {"go b", "ok"}, {"join main", "error 9"}, {"join main", "error 9"}, {"join c", "error 6"}, {"join b", "error 10"}, {"show", plainShow}, {"undo", "error 10"}}...)
	return out
}

func joinTalks() map[string]deskTalk {
	return map[string]deskTalk{
		"join of what is ahead": {{"fork b", "ok"}, {"go b", "ok"}, {"fill 0 0 2 2 5", "ok"}, {"go main", "ok"}, {"join b", "clashes 0"}, {"show", "5500/5500/0000/0000"}, {"size", "3 3"}, {"join b", "error 10"}},
		"join of two beside each other": {
			{"fork b", "ok"}, {"fill 0 0 2 1 5", "ok"}, {"go b", "ok"}, {"fill 2 0 2 1 6", "ok"}, {"show", "0066/0000/0000/0000"},
			{"go main", "ok"}, {"join b", "clashes 0"}, {"show", "5566/0000/0000/0000"}, {"size", "4 8"},
			{"go b", "ok"}, {"show", "0066/0000/0000/0000"}, {"join main", "clashes 0"}, {"show", "5566/0000/0000/0000"}, {"size", "5 8"},
		},
		"join of two over one another": {
			{"fork b", "ok"}, {"fill 0 0 2 2 5", "ok"}, {"go b", "ok"}, {"fill 1 0 3 4 6", "ok"},
			{"go main", "ok"}, {"join b", "clashes 2"}, {"show", "5566/5566/0666/0666"}, {"undo", "ok"}, {"show", "5500/5500/0000/0000"},
			{"go b", "ok"}, {"show", "0666/0666/0666/0666"}, {"join main", "clashes 2"}, {"show", "5666/5666/0666/0666"},
		},
		"join where all clash":      {{"fork b", "ok"}, {"fill 0 0 4 4 5", "ok"}, {"go b", "ok"}, {"fill 0 0 4 4 6", "ok"}, {"join main", "clashes 16"}, {"show", "6666/6666/6666/6666"}, {"join main", "error 10"}},
		"join where both are alike": {{"fork b", "ok"}, {"fill 0 0 1 1 5", "ok"}, {"go b", "ok"}, {"fill 0 0 1 1 5", "ok"}, {"size", "3 4"}, {"join main", "clashes 0"}, {"show", "5000/0000/0000/0000"}, {"size", "4 4"}},
		"join behind undo":          {{"fork b", "ok"}, {"fill 0 0 1 1 5", "ok"}, {"go b", "ok"}, {"fill 0 0 1 1 6", "ok"}, {"undo", "ok"}, {"join main", "clashes 0"}, {"show", "5000/0000/0000/0000"}, {"redo", "error 10"}, {"undo", "ok"}, {"show", plainShow}},
		"no clash of a join behind it": {
			{"fork b", "ok"}, {"fill 0 0 1 1 5", "ok"}, {"go b", "ok"}, {"fill 0 0 1 1 6", "ok"}, {"join main", "clashes 1"},
			{"fill 3 3 1 1 6", "ok"}, {"fork c", "ok"}, {"prune", "ok"}, {"undo", "ok"}, {"go main", "ok"}, {"join b", "clashes 0"}, {"show", "6000/0000/0000/0000"},
		},
	}
}

func wayTalks() map[string]deskTalk {
	return map[string]deskTalk{
		"way":                 {{"way 0 0 3 3", "6 7"}, {"way 3 3 0 0", "6 7"}, {"way 0 0 0 0", "0 1"}, {"way 1 2 1 1", "1 2"}},
		"way over tiles":      {{"fill 1 0 1 4 3", "ok"}, {"way 0 0 2 0", "8 3"}, {"way 0 0 1 0", "4 2"}, {"fill 1 3 1 1 0", "ok"}, {"way 0 0 2 0", "8 3"}, {"fill 1 0 1 3 8", "ok"}, {"way 0 0 2 0", "8 9"}},
		"way round walls":     {{"fill 1 0 1 3 9", "ok"}, {"way 0 0 2 0", "8 9"}, {"fill 1 3 1 1 9", "ok"}, {"way 0 0 2 0", "error 6"}, {"way 0 0 0 3", "3 4"}, {"undo", "ok"}, {"way 0 0 2 0", "8 9"}},
		"way of a wall":       {{"fill 1 1 1 1 9", "ok"}, {"way 1 1 1 1", "error 6"}, {"way 0 0 1 1", "error 6"}, {"way 1 1 0 0", "error 6"}, {"way 1 1 4 0", "error 8"}},
		"way beyond the map":  {{"way 0 0 4 0", "error 8"}, {"way 0 0 0 4", "error 8"}, {"way 4 0 0 0", "error 8"}, {"way 0 4 0 0", "error 8"}, {"way 999999999 0 0 0", "error 8"}},
		"way on a branch":     {{"fork b", "ok"}, {"fill 0 0 4 4 1", "ok"}, {"way 0 0 1 0", "3 2"}, {"go b", "ok"}, {"way 0 0 1 0", "1 2"}},
		"way turns nothing":   {{"fill 0 0 1 1 5", "ok"}, {"undo", "ok"}, {"way 0 0 3 3", "6 7"}, {"way 0 0 4 4", "error 8"}, {"redo", "ok"}, {"size", "2 4"}},
		"prune turns nothing": {{"fill 0 0 1 1 5", "ok"}, {"fork b", "ok"}, {"go b", "ok"}, {"undo", "ok"}, {"prune", "ok"}, {"size", "2 4"}, {"show", plainShow}, {"redo", "ok"}, {"show", "5000/0000/0000/0000"}, {"go main", "ok"}, {"undo", "ok"}, {"prune", "ok"}, {"fill 0 0 1 1 6", "ok"}, {"prune", "ok"}, {"size", "3 7"}, {"go b", "ok"}, {"show", "5000/0000/0000/0000"}},
	}
}

func TestDeskByHand(t *testing.T) {
	for name, talk := range talks() {
		text, want := talk.texts()
		checkTold(t, name, text, want)
	}
}

// Each line can come to each of its codes, and does, in the talks above.
func TestTalksComeToEachCode(t *testing.T) {
	met := map[string]bool{}
	for _, talk := range talks() {
		for _, turn := range talk {
			word, _, _ := strings.Cut(turn[0], " ")
			met[word+": "+turn[1]] = true
		}
	}
	for _, want := range []string{
		"fill: ok", "fill: error 1", "fill: error 8", "fill: error 9", "fill: error 10",
		"fork: ok", "fork: error 1", "fork: error 7", "fork: error 9", "go: ok", "go: error 6",
		"undo: ok", "undo: error 10", "redo: ok", "redo: error 10",
		"join: clashes 0", "join: clashes 1", "join: clashes 16", "join: error 6", "join: error 9", "join: error 10",
		"way: 6 7", "way: error 6", "way: error 8", "prune: ok",
	} {
		if !met[want] {
			t.Errorf("no talk has %s", want)
		}
	}
}

// The desk stays on its branch, whatever else is done: what is drawn then is seen there, and nowhere else.
func TestDeskStaysOnItsBranch(t *testing.T) {
	for _, line := range []string{"fork c", "fork b", "fork B", "go none", "undo", "redo", "join main", "join b", "join none", "show", "way 0 0 1 1", "way 9 9 9 9", "size", "prune", "fill 0 0 1 1 5", "fill 0 0 1 1 0", "fill 0 0 9 9 9"} {
		text := deskLines("fork b", "fill 3 0 1 1 4", "go b", line, "fill 0 0 4 4 8", "show", "go main", "show")
		got := strings.Split(impl.DeskRun(text).Text, "\n")
		if len(got) != 9 || got[4] != "ok" || got[5] != "8888/8888/8888/8888" || got[7] != "0004/0000/0000/0000" {
			t.Errorf("behind %q: got %q", line, got)
		}
	}
}

// What a line is refused for turns nothing that is told later; nor do the lines that only tell something.
func TestDeskWithoutWhatTurnsNothing(t *testing.T) {
	gone := 0
	for seed := range int64(300) {
		lines := drawnLines(seed, impl.MaxDesk)
		told := strings.Split(impl.DeskRun(deskLines(lines...)).Text, "\n")
		var kept, want []string
		for i, l := range lines {
			word, _, _ := strings.Cut(l, " ")
			if strings.HasPrefix(told[i], "error ") || (seed+int64(i))%2 == 0 && strings.Contains("show way size prune", word) {
				gone++
				continue
			}
			kept, want = append(kept, l), append(want, told[i])
		}
		checkTold(t, fmt.Sprint("drawn ", seed), deskLines(kept...), deskLines(want...))
	}
	if gone < 1000 {
		t.Errorf("%d lines are left out", gone)
	}
}

func TestDeskOfDrawnTexts(t *testing.T) {
	for seed := range int64(600) {
		text := deskLines(drawnLines(seed, int(seed)%(impl.MaxDesk+1))...)
		if got, want := impl.DeskRun(text), modelRun(text); got != want {
			t.Fatalf("%q:\ngot  %+v\nwant %+v", text, got, want)
		}
	}
}

// Nothing is kept from one text to the next.
func TestDeskKeepsNothing(t *testing.T) {
	impl.DeskRun(deskLines("fork b", "go b", "fill 0 0 4 4 5", "fork c"))
	impl.DeskRun("no line")
	checkTold(t, "behind another", deskLines("show", "size", "go b", "redo"), deskLines(plainShow, "1 1", "error 6", "error 10"))
}
