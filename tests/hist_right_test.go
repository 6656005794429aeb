package tests

import (
	"fmt"
	"math"
	"slices"
	"strings"
	"testing"

	"loop.example/g00635/impl"
)

func version(parent, other, root int64) impl.Version {
	return impl.Version{Parent: parent, Other: other, Root: root}
}

func branch(name string, at int64, redo ...int64) impl.Branch {
	return impl.Branch{Name: name, At: at, Redo: redo}
}

func copyBranches(l []impl.Branch) []impl.Branch {
	out := slices.Clone(l)
	for i := range out {
		out[i].Redo = slices.Clone(out[i].Redo)
	}
	return out
}

func copyHist(h impl.Hist) impl.Hist {
	return impl.Hist{Side: h.Side, Pool: copyPool(h.Pool), Versions: slices.Clone(h.Versions), Branches: copyBranches(h.Branches)}
}

func likeBranch(a impl.Branch, b impl.Branch) bool {
	return a.Name == b.Name && a.At == b.At && slices.Equal(a.Redo, b.Redo)
}

func likeHist(a impl.Hist, b impl.Hist) bool {
	return a.Side == b.Side && likePool(a.Pool, b.Pool) && slices.Equal(a.Versions, b.Versions) && slices.EqualFunc(a.Branches, b.Branches, likeBranch)
}

// family is a right Hist with versions of two parents, versions with several behind them, and branches that are gone back.
func family() impl.Hist {
	return impl.Hist{
		Side: 4,
		Pool: steps(), // nodes 0 to 4 are no higher than side 4 lets be
		Versions: []impl.Version{
			version(-1, -1, 0), version(0, -1, 3), version(0, -1, 4), version(1, 2, 1),
			version(2, -1, 2), version(4, 1, 3), version(3, -1, 0), version(3, 5, 4),
		},
		Branches: []impl.Branch{branch("a", 7), branch("b_2", 0, 2, 4, 5), branch("main", 1, 3, 6)},
	}
}

// line is of so many versions one behind the other, the tile of each its number, and the branch main at one of them.
func line(size int, at int64, redo ...int64) impl.Hist {
	h := impl.Hist{Side: 1, Pool: widePool(10), Branches: []impl.Branch{branch("main", at, redo...)}}
	for i := range int64(size) {
		h.Versions = append(h.Versions, version(i-1, -1, i%10))
	}
	return h
}

// beside is of so many branches b0, b1 and so on, all at the one version.
func beside(size int) impl.Hist {
	h := line(1, 0)
	h.Branches = nil
	for i := range size {
		h.Branches = append(h.Branches, branch(fmt.Sprint("b", i), 0))
	}
	return h
}

// fullLine has no room for a version more, and can be gone back in, and forth again.
func fullLine() impl.Hist {
	h := line(impl.MaxVersions, 7, 8, 9, 10)
	h.Branches = append([]impl.Branch{branch("a", 0), branch("b", impl.MaxVersions-1)}, h.Branches...)
	return h
}

// crowded is of a Pool with room for so many nodes more.
func crowded(free int) impl.Hist {
	return impl.Hist{
		Side:     8,
		Pool:     widePool(impl.MaxPool - free),
		Versions: []impl.Version{version(-1, -1, 0), version(0, -1, 12), version(0, -1, 30)},
		Branches: []impl.Branch{branch("a", 1), branch("b", 2), branch("main", 0, 2)},
	}
}

func someHists() map[string]impl.Hist {
	four := family()
	four.Branches = append(four.Branches, branch("z", 4, 5))
	out := map[string]impl.Hist{
		"family":               family(),
		"family of four":       four,
		"one version":          line(1, 0),
		"a line":               line(6, 3, 4, 5),
		"a line gone all back": line(impl.MaxVersions, 0, 1, 2, 3, 4, 5, 6, 7, 8, 9, 10, 11, 12, 13),
		"full of versions":     fullLine(),
		"full of branches":     beside(impl.MaxBranches),
		"full of nodes":        crowded(0),
		"room for one node":    crowded(1),
		"room for some nodes":  crowded(9),
	}
	for _, side := range rightSides() {
		out[fmt.Sprint("new of ", side)] = impl.HistNew(side).Hist
	}
	return out
}

// with is the family, of which one thing is turned.
func with(turn func(h *impl.Hist)) impl.Hist {
	h := family()
	turn(&h)
	return h
}

// wrongHists are not right: each sentence of what is right is broken alone.
func wrongHists() map[string]impl.Hist {
	out := map[string]impl.Hist{
		"zero":                     {},
		"no version":               with(func(h *impl.Hist) { h.Versions = nil }),
		"one version too many":     line(impl.MaxVersions+1, 0),
		"many versions":            line(5000, 0),
		"first of a Parent":        with(func(h *impl.Hist) { h.Versions[0].Parent = 0 }),
		"first of Parent -2":       with(func(h *impl.Hist) { h.Versions[0].Parent = -2 }),
		"first of an Other":        with(func(h *impl.Hist) { h.Versions[0].Other = 0 }),
		"first of Other -2":        with(func(h *impl.Hist) { h.Versions[0].Other = -2 }),
		"further of no Parent":     with(func(h *impl.Hist) { h.Versions[4].Parent = -1 }),
		"Parent itself":            with(func(h *impl.Hist) { h.Versions[4].Parent = 4 }),
		"Parent behind":            with(func(h *impl.Hist) { h.Versions[4].Parent = 5 }),
		"Parent below -1":          with(func(h *impl.Hist) { h.Versions[7].Parent = -2 }),
		"Parent far beyond":        with(func(h *impl.Hist) { h.Versions[7].Parent = math.MaxInt64 }),
		"Parent far below":         with(func(h *impl.Hist) { h.Versions[7].Parent = math.MinInt64 }),
		"Other itself":             with(func(h *impl.Hist) { h.Versions[7].Other = 7 }),
		"Other behind":             with(func(h *impl.Hist) { h.Versions[3].Other = 4 }),
		"Other that is Parent":     with(func(h *impl.Hist) { h.Versions[3].Other = 1 }),
		"Other below -1":           with(func(h *impl.Hist) { h.Versions[7].Other = -2 }),
		"Other far beyond":         with(func(h *impl.Hist) { h.Versions[7].Other = math.MaxInt64 }),
		"Other far below":          with(func(h *impl.Hist) { h.Versions[7].Other = math.MinInt64 }),
		"Root below 0":             with(func(h *impl.Hist) { h.Versions[7].Root = -1 }),
		"Root beyond":              with(func(h *impl.Hist) { h.Versions[7].Root = 8 }),
		"Root too high":            with(func(h *impl.Hist) { h.Versions[7].Root = 5 }),
		"Root of the first too":    with(func(h *impl.Hist) { h.Versions[0].Root = 5 }),
		"no branch":                with(func(h *impl.Hist) { h.Branches = nil }),
		"one branch too many":      beside(impl.MaxBranches + 1),
		"names that fall":          with(func(h *impl.Hist) { h.Branches[1].Name = "a_"; h.Branches[0].Name = "b" }),
		"last name falls":          with(func(h *impl.Hist) { h.Branches[2].Name = "b" }),
		"names alike":              with(func(h *impl.Hist) { h.Branches[1].Name = "a" }),
		"name empty":               with(func(h *impl.Hist) { h.Branches[0].Name = "" }),
		"name of great letters":    with(func(h *impl.Hist) { h.Branches[0].Name = "A" }),
		"name that is too long":    with(func(h *impl.Hist) { h.Branches[2].Name = strings.Repeat("z", 21) }),
		"name longer than a text":  with(func(h *impl.Hist) { h.Branches[2].Name = strings.Repeat("z", impl.MaxBytes+1) }),
		"At below 0":               with(func(h *impl.Hist) { h.Branches[0].At = -1 }),
		"At beyond":                with(func(h *impl.Hist) { h.Branches[0].At = 8 }),
		"Redo that is At":          with(func(h *impl.Hist) { h.Branches[0].Redo = []int64{7} }),
		"Redo of the first":        with(func(h *impl.Hist) { h.Branches[1].Redo = []int64{0} }),
		"Redo by Other":            with(func(h *impl.Hist) { h.Branches[2].Redo = []int64{5} }),
		"Redo that leaves one out": with(func(h *impl.Hist) { h.Branches[1].Redo = []int64{2, 5} }),
		"Redo from another":        with(func(h *impl.Hist) { h.Branches[2].Redo = []int64{4, 5} }),
		"Redo with the first at last": with(func(h *impl.Hist) {
			h.Branches[1].Redo = []int64{5, 4, 2}
		}),
		"Redo that stays":        with(func(h *impl.Hist) { h.Branches[2].Redo = []int64{3, 3} }),
		"Redo of -1":             with(func(h *impl.Hist) { h.Branches[1].Redo = []int64{-1} }),
		"Redo beyond":            with(func(h *impl.Hist) { h.Branches[2].Redo = []int64{3, 6, 8} }),
		"Redo far below":         with(func(h *impl.Hist) { h.Branches[2].Redo = []int64{math.MinInt64} }),
		"Redo of two alike":      with(func(h *impl.Hist) { h.Branches[2].Redo = []int64{3, 6, 7} }),
		"Redo of MaxVersions":    line(impl.MaxVersions, 0, 1, 2, 3, 4, 5, 6, 7, 8, 9, 10, 11, 12, 13, 14),
		"Redo of one more":       line(impl.MaxVersions, 0, 1, 2, 3, 4, 5, 6, 7, 8, 9, 10, 11, 12, 13, 13, 13),
		"Redo longer than lists": line(2, 0, slices.Repeat([]int64{1}, impl.MaxList+1)...),
	}
	for _, side := range wrongSides() {
		out[fmt.Sprint("side ", side)] = with(func(h *impl.Hist) { h.Side = side })
		low := line(1, 0)
		low.Side = side
		out[fmt.Sprint("leaves of side ", side)] = low
	}
	for name, p := range wrongPools() {
		low := line(1, 0)
		low.Pool = p
		out["Pool: "+name] = low
	}
	return out
}

func TestHistLimits(t *testing.T) {
	if impl.MaxVersions != 14 || impl.MaxBranches != 4 {
		t.Errorf("limits are %d, %d", impl.MaxVersions, impl.MaxBranches)
	}
}

func TestHistRight(t *testing.T) {
	for name, h := range someHists() {
		before := copyHist(h)
		if !impl.HistRight(h) {
			t.Errorf("%s: is not right", name)
		}
		if !likeHist(h, before) {
			t.Errorf("%s: is turned", name)
		}
	}
	for name, h := range wrongHists() {
		before := copyHist(h)
		if impl.HistRight(h) {
			t.Errorf("%s: is right", name)
		}
		if !likeHist(h, before) {
			t.Errorf("%s: is turned", name)
		}
	}
}

func TestHistRightSizes(t *testing.T) {
	for size := range impl.MaxVersions + 5 {
		if got, want := impl.HistRight(line(size, 0)), size >= 1 && size <= impl.MaxVersions; got != want {
			t.Errorf("%d versions: got %v", size, got)
		}
	}
	for size := range impl.MaxBranches + 5 {
		if got, want := impl.HistRight(beside(size)), size >= 1 && size <= impl.MaxBranches; got != want {
			t.Errorf("%d branches: got %v", size, got)
		}
	}
	for size := range impl.MaxVersions + 5 {
		var redo []int64
		for i := range int64(size) {
			redo = append(redo, i+1)
		}
		if got, want := impl.HistRight(line(impl.MaxVersions, 0, redo...)), size < impl.MaxVersions; got != want {
			t.Errorf("%d in Redo: got %v", size, got)
		}
	}
}

func TestHistRightHeights(t *testing.T) {
	heights := []int64{0, 0, 0, 1, 2, 3, 4, 5}
	for root, height := range heights {
		for doublings, side := range rightSides() {
			h := impl.Hist{Side: side, Pool: steps(), Versions: []impl.Version{version(-1, -1, int64(root))}, Branches: []impl.Branch{branch("main", 0)}}
			if got, want := impl.HistRight(h), height <= int64(doublings); got != want {
				t.Errorf("root %d, side %d: got %v", root, side, got)
			}
		}
	}
}

func TestHistRightNames(t *testing.T) {
	for _, c := range []struct {
		names []string
		want  bool
	}{
		{[]string{"a"}, true}, {[]string{"zz9_"}, true}, {[]string{strings.Repeat("a", 20)}, true}, {[]string{strings.Repeat("a", 21)}, false},
		{[]string{""}, false}, {[]string{"9"}, false}, {[]string{"_a"}, false}, {[]string{"a b"}, false}, {[]string{"aB"}, false}, {[]string{"ä"}, false}, {[]string{"a\n"}, false},
		{[]string{"a", "b"}, true}, {[]string{"a", "a0"}, true}, {[]string{"a0", "a"}, false}, {[]string{"a", "a"}, false}, {[]string{"b", "a"}, false},
		{[]string{"a0", "a_"}, true}, {[]string{"a_", "aa"}, true}, {[]string{"a_", "a0"}, false}, {[]string{"aa", "b"}, true}, {[]string{"b", "aa"}, false},
		{[]string{"a", "b", "c", "d"}, true}, {[]string{"a", "b", "c", "c"}, false}, {[]string{"a", "c", "b", "d"}, false}, {[]string{"a", "b", "c", "A"}, false},
	} {
		h := line(1, 0)
		h.Branches = nil
		for _, name := range c.names {
			h.Branches = append(h.Branches, branch(name, 0))
		}
		if got := impl.HistRight(h); got != c.want {
			t.Errorf("%q: got %v", c.names, got)
		}
	}
}

// numbersOf are all the numbers of a Hist but those of its Pool.
func numbersOf(h *impl.Hist) []*int64 {
	out := []*int64{&h.Side}
	for i := range h.Versions {
		v := &h.Versions[i]
		out = append(out, &v.Parent, &v.Other, &v.Root)
	}
	for i := range h.Branches {
		out = append(out, &h.Branches[i].At)
		for j := range h.Branches[i].Redo {
			out = append(out, &h.Branches[i].Redo[j])
		}
	}
	return out
}

// Each number of a Hist, made another one, leaves it right or not, as the document says word by word.
func TestHistRightEachNumber(t *testing.T) {
	counts := map[bool]int{}
	for name, h := range someHists() {
		for i, n := range numbersOf(&h) {
			was := *n
			for _, other := range []int64{-3, -2, -1, 0, 1, 2, 3, 4, 5, 6, 7, 8, 9, 12, 13, 14, 15, 199, 200, math.MinInt64, math.MaxInt64} {
				*n = other
				got, want := impl.HistRight(h), modelRight(h)
				if got != want {
					t.Fatalf("%s, number %d: %d instead of %d: got %v", name, i, other, was, got)
				}
				counts[got]++
			}
			*n = was
		}
	}
	if counts[true] < 100 || counts[false] < 100 {
		t.Errorf("counts are %v", counts)
	}
}

// Each two numbers of a small Hist, made others.
func TestHistRightEachTwoNumbers(t *testing.T) {
	h := line(4, 1, 2, 3)
	for i, n := range numbersOf(&h) {
		for _, m := range numbersOf(&h)[:i] {
			wasN, wasM := *n, *m
			for otherN := int64(-2); otherN < 6; otherN++ {
				for otherM := int64(-2); otherM < 6; otherM++ {
					*n, *m = otherN, otherM
					if got := impl.HistRight(h); got != modelRight(h) {
						t.Fatalf("%+v: got %v", h, got)
					}
				}
			}
			*n, *m = wasN, wasM
		}
	}
}
