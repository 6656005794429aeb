package tests

import (
	"slices"
	"strings"
	"testing"

	"loop.example/g00635/impl"
)

func TestForkByHand(t *testing.T) {
	for _, c := range []struct {
		from  string
		name  string
		place int
		at    int64
	}{
		{"a", "a0", 1, 7}, {"a", "z", 3, 7}, {"b_2", "a", 0, 0}, {"b_2", "b", 1, 0}, {"b_2", "b_", 1, 0}, {"b_2", "b_20", 2, 0}, {"main", "m", 2, 1},
		{"main", "main_", 3, 1}, {"main", strings.Repeat("n", 20), 3, 1},
	} {
		h := family()
		if c.name == "a" {
			h.Branches[0].Name = "aa"
		}
		got := impl.Fork(h, c.from, c.name)
		want := copyHist(h)
		want.Branches = slices.Insert(want.Branches, c.place, branch(c.name, c.at))
		if !likeHistOut(got, impl.HistOut{Hist: want}) {
			t.Errorf("%s to %s: got %+v", c.from, c.name, got)
		}
	}
}

// Faults are told in order: the branch, the name, that it is there, and that there is no room.
func TestForkCodes(t *testing.T) {
	full := beside(impl.MaxBranches)
	noNames := []string{"", "A", "_a", "0a", "a b", "a-", "a\n", "ä", longName(21), longName(impl.MaxBytes)}
	for _, bad := range noNames {
		if got := impl.Fork(family(), "main", bad); !onlyHistCode(got, impl.ErrForm) {
			t.Errorf("%.30q: got %+v", bad, got)
		}
		if got := impl.Fork(full, "b0", bad); !onlyHistCode(got, impl.ErrForm) {
			t.Errorf("%.30q, no room: got %+v", bad, got)
		}
		if got := impl.Fork(family(), "none", bad); !onlyHistCode(got, impl.ErrNone) {
			t.Errorf("%.30q, no branch: got %+v", bad, got)
		}
		if got := impl.Fork(family(), bad, "x"); !onlyHistCode(got, impl.ErrNone) {
			t.Errorf("from %.30q: got %+v", bad, got)
		}
	}
	for _, c := range []struct {
		name       string
		h          impl.Hist
		from, fork string
		want       int64
	}{
		{"no branch, no room", full, "x", "y", impl.ErrNone},
		{"no branch, the name is there", family(), "none", "main", impl.ErrNone},
		{"it is there", family(), "main", "a", impl.ErrThere},
		{"it is itself", family(), "main", "main", impl.ErrThere},
		{"it is there, no room", full, "b0", "b3", impl.ErrThere},
		{"itself, no room", full, "b0", "b0", impl.ErrThere},
		{"no room", full, "b0", "b4", impl.ErrFull},
	} {
		if got := impl.Fork(c.h, c.from, c.fork); !onlyHistCode(got, c.want) {
			t.Errorf("%s: got %+v, want code %d", c.name, got, c.want)
		}
	}
}

func TestForkToMaxBranches(t *testing.T) {
	h := impl.HistNew(1).Hist
	for _, name := range []string{"z", "a", "n"} {
		got := checkCall(t, "forking on", h, callFork("main", name))
		if got.Code != impl.OK {
			t.Fatalf("%s: got %+v", name, got)
		}
		h = got.Hist
	}
	var names []string
	for _, b := range h.Branches {
		names = append(names, b.Name)
	}
	if !slices.Equal(names, []string{"a", "main", "n", "z"}) {
		t.Errorf("names are %v", names)
	}
	for _, from := range names {
		if got := impl.Fork(h, from, "more"); !onlyHistCode(got, impl.ErrFull) {
			t.Errorf("one more from %s: got %+v", from, got)
		}
	}
}

// A fork is made where the branch is, also where no room is for a Version or a node more.
func TestForkNeedsNoVersion(t *testing.T) {
	for of, h := range map[string]impl.Hist{"versions": fullLine(), "nodes": crowded(0)} {
		got := checkCall(t, of, h, callFork("main", "x"))
		if got.Code != impl.OK || !slices.Equal(got.Hist.Versions, h.Versions) || !likePool(got.Hist.Pool, h.Pool) {
			t.Errorf("full of %s: got %+v", of, got)
		}
		if b := got.Hist.Branches[3]; b.Name != "x" || len(b.Redo) != 0 {
			t.Errorf("full of %s: the new branch is %+v", of, b)
		}
	}
}
