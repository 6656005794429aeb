package tests

import (
	"fmt"
	"math/rand"
	"regexp"
	"strconv"
	"strings"

	"loop.example/g00635/impl"
)

// The model says of a desk what the document says, word by word, by the models of the layers behind it.

const (
	numberForm = `(0|[1-9][0-9]{0,8})`
	nameForm   = `[^ \n]+`
)

// Bytes that are no UTF-8 count, each by itself, as a sign that is neither a blank nor a line feed.
var deskForm = regexp.MustCompile(`^(fill( ` + numberForm + `){5}|way( ` + numberForm + `){4}|(fork|go|join) ` + nameForm + `|undo|redo|show|size|prune)\n$`)

// modelFault is the first line that is none, looked for line by line.
func modelFault(text string) impl.DeskOut {
	if len(text) > 8000 {
		return impl.DeskOut{Code: impl.ErrSize}
	}
	for at, l := range strings.SplitAfter(text, "\n") {
		if l == "" {
			break // what stands behind the last line feed is no line
		}
		if at >= 30 || !deskForm.MatchString(l) {
			return impl.DeskOut{Line: int64(at), Code: impl.ErrSyntax}
		}
	}
	return impl.DeskOut{}
}

type modelDesk struct {
	hist   impl.Hist
	branch string
}

func modelError(code int64) string {
	return "error " + strconv.FormatInt(code, 10)
}

// changed tells that what was done, or the code, and of a join how many clash.
func (d *modelDesk) changed(out impl.HistOut, tell string) string {
	if out.Code != impl.OK {
		return modelError(out.Code)
	}
	d.hist = out.Hist
	return strings.ReplaceAll(tell, "#", strconv.Itoa(len(out.Clashes)))
}

func (d *modelDesk) grid() impl.Grid {
	return modelGrown(d.hist, d.branch).Grid
}

func (d *modelDesk) way(a impl.Place, b impl.Place) string {
	g := d.grid()
	if impl.TileAt(g, a.X, a.Y) == -1 || impl.TileAt(g, b.X, b.Y) == -1 {
		return modelError(impl.ErrRange)
	}
	if impl.TileAt(g, a.X, a.Y) == impl.Wall || impl.TileAt(g, b.X, b.Y) == impl.Wall {
		return modelError(impl.ErrNone)
	}
	dists := modelDists(g, a)
	cost := dists[b.Y*g.Side+b.X]
	if cost == impl.NoWay {
		return modelError(impl.ErrNone)
	}
	return fmt.Sprint(cost, " ", len(modelWay(g, dists, a, b)))
}

func (d *modelDesk) line(words []string) string {
	var n []int64
	for _, w := range words[1:] {
		number, _ := strconv.ParseInt(w, 10, 64)
		n = append(n, number)
	}
	switch words[0] {
	case "fill":
		return d.changed(modelEdit(d.hist, d.branch, n[0], n[1], n[2], n[3], n[4]), "ok")
	case "fork":
		return d.changed(modelFork(d.hist, d.branch, words[1]), "ok")
	case "go":
		if branchPlace(d.hist, words[1]) < 0 {
			return "error 6"
		}
		d.branch = words[1]
		return "ok"
	case "undo":
		return d.changed(modelUndo(d.hist, d.branch), "ok")
	case "redo":
		return d.changed(modelRedo(d.hist, d.branch), "ok")
	case "join":
		return d.changed(modelJoin(d.hist, d.branch, words[1]), "clashes #")
	case "show":
		return strings.Join(strings.Fields(impl.GridText(d.grid())), "/")
	case "way":
		return d.way(impl.Place{X: n[0], Y: n[1]}, impl.Place{X: n[2], Y: n[3]})
	case "size":
		return fmt.Sprint(len(d.hist.Versions), " ", len(d.hist.Pool.Nodes))
	}
	return d.changed(modelPrune(d.hist), "ok")
}

func modelRun(text string) impl.DeskOut {
	out := modelFault(text)
	if out.Code != impl.OK {
		return out
	}
	d := &modelDesk{impl.HistNew(4).Hist, "main"}
	for l := range strings.Lines(text) {
		out.Text += d.line(strings.Split(strings.TrimSuffix(l, "\n"), " ")) + "\n"
	}
	return out
}

// deskLines is a text of these lines.
func deskLines(lines ...string) string {
	text := ""
	for _, l := range lines {
		text += l + "\n"
	}
	return text
}

// drawnLine is some line of the table, that can be followed more often than not.
func drawnLine(r *rand.Rand) string {
	names := []string{"main", "b", "c", "a_2", "b", "main", "d", "e", "none!"}
	name := names[r.Intn(len(names))]
	switch r.Intn(14) {
	case 0:
		return "fork " + name
	case 1, 2:
		return "go " + name
	case 3:
		return "undo"
	case 4:
		return "redo"
	case 5, 6:
		return "join " + name
	case 7:
		return "show"
	case 8:
		return fmt.Sprintf("way %d %d %d %d", r.Intn(4), r.Intn(4), r.Intn(4), r.Intn(4+r.Intn(2)))
	case 9:
		return "size"
	case 10:
		return "prune"
	}
	x, y := r.Intn(4), r.Intn(4)
	return fmt.Sprintf("fill %d %d %d %d %d", x, y, 1+r.Intn(4-x), r.Intn(6-y), r.Intn(11))
}

// drawnLines begin as often as not with a second branch.
func drawnLines(seed int64, size int) []string {
	r := rand.New(rand.NewSource(seed))
	var lines []string
	if seed%2 == 0 && size > 0 {
		lines = append(lines, "fork b")
	}
	for len(lines) < size {
		lines = append(lines, drawnLine(r))
	}
	return lines
}
