package tests

import (
	"fmt"
	"math"
	"slices"
	"strings"
	"testing"

	"loop.example/g00635/impl"
)

// histCall is a call that makes one Hist of another, and what the document says of it.
type histCall struct {
	name  string
	do    func(h impl.Hist) impl.HistOut
	model func(h impl.Hist) impl.HistOut
}

func callEdit(name string, x, y, w, hi, tile int64) histCall {
	return histCall{
		fmt.Sprintf("Edit(%.30q, %d, %d, %d, %d, %d)", name, x, y, w, hi, tile),
		func(h impl.Hist) impl.HistOut { return impl.Edit(h, name, x, y, w, hi, tile) },
		func(h impl.Hist) impl.HistOut { return modelEdit(h, name, x, y, w, hi, tile) },
	}
}

func callFork(from string, name string) histCall {
	return histCall{
		fmt.Sprintf("Fork(%.30q, %.30q)", from, name),
		func(h impl.Hist) impl.HistOut { return impl.Fork(h, from, name) },
		func(h impl.Hist) impl.HistOut { return modelFork(h, from, name) },
	}
}

func callUndo(name string) histCall {
	return histCall{
		fmt.Sprintf("Undo(%.30q)", name),
		func(h impl.Hist) impl.HistOut { return impl.Undo(h, name) },
		func(h impl.Hist) impl.HistOut { return modelUndo(h, name) },
	}
}

func callRedo(name string) histCall {
	return histCall{
		fmt.Sprintf("Redo(%.30q)", name),
		func(h impl.Hist) impl.HistOut { return impl.Redo(h, name) },
		func(h impl.Hist) impl.HistOut { return modelRedo(h, name) },
	}
}

func callJoin(into string, from string) histCall {
	return histCall{
		fmt.Sprintf("Join(%.30q, %.30q)", into, from),
		func(h impl.Hist) impl.HistOut { return impl.Join(h, into, from) },
		func(h impl.Hist) impl.HistOut { return modelJoin(h, into, from) },
	}
}

func longName(size int) string {
	return strings.Repeat("a", size)
}

// callNames are of branches that are there in one Hist or the other, of none, of what is no name, and texts that are too long.
func callNames() []string {
	return []string{"a", "b", "b_2", "main", "z", "b0", "b3", "none", "", "Main", "main ", longName(21), longName(impl.MaxBytes), longName(impl.MaxBytes + 1)}
}

// callsOf are the calls with one name, and with two.
func callsOf(names []string) []histCall {
	var out []histCall
	for _, name := range names {
		out = append(out, callUndo(name), callRedo(name))
		for _, r := range [][5]int64{
			{0, 0, 1, 1, 5}, {0, 0, 1, 1, 0}, {0, 0, 8, 8, 3}, {1, 0, 1, 2, 9}, {3, 3, 1, 1, 7}, {0, 0, 1, 1, 10}, {0, 0, 9, 1, 10}, {0, 0, 9, 1, 0},
			{-1, 0, 1, 1, 4}, {0, 0, 0, 1, 4}, {0, 0, 1, math.MinInt64, 4}, {math.MaxInt64, 0, 1, 1, 4}, {0, 0, 1, 1, -1},
		} {
			out = append(out, callEdit(name, r[0], r[1], r[2], r[3], r[4]))
		}
		for _, other := range names {
			out = append(out, callFork(name, other), callJoin(name, other))
		}
	}
	return out
}

func checkCall(t *testing.T, of string, h impl.Hist, call histCall) impl.HistOut {
	t.Helper()
	before := copyHist(h)
	got, want := call.do(h), call.model(h)
	if !likeHistOut(got, want) {
		t.Fatalf("%s of %s:\ngot  %+v\nwant %+v", call.name, of, got, want)
	}
	if got.Code != impl.OK && !onlyHistCode(got, got.Code) {
		t.Fatalf("%s of %s: beside code %d there is %+v", call.name, of, got.Code, got)
	}
	if got.Code == impl.OK && !impl.HistRight(got.Hist) {
		t.Fatalf("%s of %s: is not right then: %+v", call.name, of, got)
	}
	if !likeHist(h, before) {
		t.Fatalf("%s of %s: what was handed in is turned", call.name, of)
	}
	return got
}

// Each call of each Hist that is right, and of what comes of it.
func TestEachCallOfRightHists(t *testing.T) {
	calls := callsOf(callNames())
	for of, h := range someHists() {
		for _, call := range calls {
			got := checkCall(t, of, h, call)
			if got.Code != impl.OK {
				continue
			}
			for _, name := range []string{"a", "main", "none"} {
				for _, next := range []histCall{callUndo(name), callRedo(name), callEdit(name, 0, 0, 1, 1, 6), callFork(name, "x"), callJoin("a", name), callJoin(name, "b"), callJoin("main", "x")} {
					checkCall(t, of+", "+call.name, got.Hist, next)
				}
			}
		}
	}
}

// All that is told of a Hist that is not right is that, whatever the names are, unless one is too long.
func TestEachCallOfWrongHists(t *testing.T) {
	names := []string{"main", "none", "", longName(impl.MaxBytes), longName(impl.MaxBytes + 1)}
	for of, h := range wrongHists() {
		for _, call := range callsOf(names) {
			want := int64(impl.ErrForm)
			if call.model(line(1, 0)).Code == impl.ErrSize {
				want = impl.ErrSize
			}
			if got := call.do(h); !onlyHistCode(got, want) {
				t.Fatalf("%s of %s: got %+v, want code %d", call.name, of, got, want)
			}
		}
	}
}

// Each text that a call takes may be too long, and that is told ahead of all else.
func TestEachTextTooLong(t *testing.T) {
	long := longName(impl.MaxBytes + 1)
	for _, h := range []impl.Hist{family(), {}, fullLine(), beside(5)} {
		for _, call := range []histCall{
			callEdit(long, 0, 0, 1, 1, 5), callEdit(long, -1, 0, 1, 1, 55), callUndo(long), callRedo(long),
			callFork(long, "x"), callFork("main", long), callFork("none", long), callFork(long, long),
			callJoin(long, "main"), callJoin("main", long), callJoin("none", long), callJoin(long, long),
		} {
			if got := call.do(h); !onlyHistCode(got, impl.ErrSize) {
				t.Errorf("%s: got %+v", call.name, got)
			}
		}
		if got := impl.Grown(h, long); !onlyCode(got, impl.ErrSize) {
			t.Errorf("Grown: got %+v", got)
		}
	}
}

// roomy is a Hist each list of which has room behind it, in a list that is greater.
type roomy struct {
	h        impl.Hist
	nodes    []impl.Node
	versions []impl.Version
	branches []impl.Branch
	redos    [][]int64
}

const roomAround = 3

// inRoom puts a list into the middle of a greater one, and hands out both.
func inRoom[T any](l []T, filler T) ([]T, []T) {
	room := slices.Repeat([]T{filler}, len(l)+2*roomAround)
	copy(room[roomAround:], l)
	return room[roomAround : roomAround+len(l)], room
}

func roomyOf(h impl.Hist) roomy {
	r := roomy{h: copyHist(h)}
	for i, b := range r.h.Branches {
		list, room := inRoom(b.Redo, 55)
		r.h.Branches[i].Redo, r.redos = list, append(r.redos, room)
	}
	r.h.Pool.Nodes, r.nodes = inRoom(r.h.Pool.Nodes, leaf(55))
	r.h.Versions, r.versions = inRoom(r.h.Versions, version(55, 55, 55))
	r.h.Branches, r.branches = inRoom(r.h.Branches, branch("room", 55))
	return r
}

func (r roomy) text() string {
	return fmt.Sprint(r.nodes, r.versions, r.branches, r.redos)
}

// scribble writes over each list of a Hist, and the room behind it, and hands back all lists of numbers.
func scribble(h impl.Hist) [][]int64 {
	var lists [][]int64
	for i, b := range h.Branches {
		redo := b.Redo[:cap(b.Redo)]
		for j := range redo {
			redo[j] = int64(1000 + i)
		}
		lists = append(lists, redo)
	}
	nodes, versions, branches := h.Pool.Nodes[:cap(h.Pool.Nodes)], h.Versions[:cap(h.Versions)], h.Branches[:cap(h.Branches)]
	for i := range nodes {
		nodes[i] = leaf(77)
	}
	for i := range versions {
		versions[i] = version(77, 77, 77)
	}
	for i := range branches {
		branches[i] = branch("scribbled", 77)
	}
	return lists
}

func checkOwnMemory(t *testing.T, of string, h impl.Hist, call histCall) {
	t.Helper()
	r := roomyOf(h)
	before := r.text()
	got, again := call.do(r.h), call.do(r.h)
	want := copyHist(again.Hist)
	if r.text() != before {
		t.Fatalf("%s of %s: what was handed in is turned", call.name, of)
	}
	for i, list := range scribble(got.Hist) {
		if slices.ContainsFunc(list, func(n int64) bool { return n != int64(1000+i) }) {
			t.Fatalf("%s of %s: two lists of the answer share memory", call.name, of)
		}
	}
	if r.text() != before {
		t.Fatalf("%s of %s: the answer shares memory with what was handed in", call.name, of)
	}
	scribble(r.h)
	if !likeHist(again.Hist, want) {
		t.Fatalf("%s of %s: what was handed in, or an earlier answer, shares memory with the answer", call.name, of)
	}
}

func TestEachCallIsNewMemory(t *testing.T) {
	four := family()
	four.Branches = append(four.Branches, branch("z", 4, 5))
	for of, h := range map[string]impl.Hist{"family": family(), "family of four": four, "line": line(9, 4, 5, 6, 7, 8), "full": fullLine(), "new": impl.HistNew(8).Hist} {
		for _, call := range callsOf([]string{"a", "b_2", "main", "z", "none"}) {
			checkOwnMemory(t, of, h, call)
		}
	}
}

func TestClashesAreNewMemory(t *testing.T) {
	h := twoDraw(2, [5]int64{0, 0, 2, 1, 5}, [5]int64{0, 0, 1, 2, 6})
	first := impl.Join(h, "main", "b")
	want := slices.Clone(first.Clashes)
	if len(want) != 1 {
		t.Fatalf("got %+v", first)
	}
	again := impl.Join(h, "main", "b")
	clear(first.Clashes[:cap(first.Clashes)])
	if !slices.Equal(again.Clashes, want) {
		t.Errorf("got %+v, want %+v", again.Clashes, want)
	}
}
