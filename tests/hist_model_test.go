package tests

import (
	"slices"
	"strings"

	"loop.example/g00635/impl"
)

// The model says of a Hist what the document says, word by word, by the layers behind it.

func onlyHistCode(out impl.HistOut, code int64) bool {
	return out.Code == code && len(out.Clashes) == 0 && likeHist(out.Hist, impl.Hist{})
}

func likeHistOut(a impl.HistOut, b impl.HistOut) bool {
	return a.Code == b.Code && slices.Equal(a.Clashes, b.Clashes) && likeHist(a.Hist, b.Hist)
}

func modelVersionsRight(h impl.Hist) bool {
	for i, v := range h.Versions {
		at := int64(i)
		if at == 0 && (v.Parent != -1 || v.Other != -1) {
			return false
		}
		if at > 0 && (v.Parent < 0 || v.Parent >= at) {
			return false
		}
		if v.Other < -1 || v.Other >= at || v.Other >= 0 && v.Other == v.Parent {
			return false
		}
		if impl.PoolGet(h.Pool, v.Root, h.Side).Code != impl.OK {
			return false
		}
	}
	return len(h.Versions) >= 1 && len(h.Versions) <= 14
}

func modelBranchesRight(h impl.Hist) bool {
	for i, b := range h.Branches {
		if !impl.NameRight(b.Name) || i > 0 && strings.Compare(h.Branches[i-1].Name, b.Name) >= 0 {
			return false
		}
		if b.At < 0 || b.At >= int64(len(h.Versions)) || len(b.Redo) > 14 {
			return false
		}
		for j, r := range b.Redo {
			ahead := append([]int64{b.At}, b.Redo...)[j]
			if r < 0 || r >= int64(len(h.Versions)) || h.Versions[r].Parent != ahead {
				return false
			}
		}
	}
	return len(h.Branches) >= 1 && len(h.Branches) <= 4
}

func modelRight(h impl.Hist) bool {
	return impl.PoolRight(h.Pool) && slices.Contains(rightSides(), h.Side) && modelVersionsRight(h) && modelBranchesRight(h)
}

func branchPlace(h impl.Hist, name string) int {
	return slices.IndexFunc(h.Branches, func(b impl.Branch) bool { return b.Name == name })
}

func versionGrid(h impl.Hist, number int64) impl.Grid {
	return impl.PoolGet(h.Pool, h.Versions[number].Root, h.Side).Grid
}

// modelCode is what all calls refuse: texts that are too long, a Hist that is not right, a Branch that is not there.
func modelCode(h impl.Hist, texts []string, branches []string) int64 {
	if slices.ContainsFunc(texts, func(s string) bool { return len(s) > 8000 }) {
		return impl.ErrSize
	}
	if !modelRight(h) {
		return impl.ErrForm
	}
	if slices.ContainsFunc(branches, func(s string) bool { return branchPlace(h, s) < 0 }) {
		return impl.ErrNone
	}
	return impl.OK
}

func modelGrow(h impl.Hist, name string, other int64, g impl.Grid) impl.HistOut {
	if len(h.Versions) == 14 {
		return impl.HistOut{Code: impl.ErrFull}
	}
	put := impl.PoolPut(h.Pool, g)
	if put.Code != impl.OK {
		return impl.HistOut{Code: put.Code}
	}
	out := copyHist(h)
	b := &out.Branches[branchPlace(h, name)]
	out.Pool, out.Versions = put.Pool, append(out.Versions, version(b.At, other, put.Root))
	*b = branch(name, int64(len(h.Versions)))
	return impl.HistOut{Hist: out}
}

func modelGrown(h impl.Hist, name string) impl.GridOut {
	if code := modelCode(h, []string{name}, []string{name}); code != impl.OK {
		return impl.GridOut{Code: code}
	}
	return impl.GridOut{Grid: versionGrid(h, h.Branches[branchPlace(h, name)].At)}
}

func modelEdit(h impl.Hist, name string, x, y, w, hi, tile int64) impl.HistOut {
	was := modelGrown(h, name)
	if was.Code != impl.OK {
		return impl.HistOut{Code: was.Code}
	}
	filled := impl.Fill(was.Grid, x, y, w, hi, tile)
	if filled.Code != impl.OK {
		return impl.HistOut{Code: filled.Code}
	}
	if likeGrid(filled.Grid, was.Grid) {
		return impl.HistOut{Code: impl.ErrState}
	}
	return modelGrow(h, name, -1, filled.Grid)
}

func modelFork(h impl.Hist, from string, name string) impl.HistOut {
	code := modelCode(h, []string{from, name}, []string{from})
	switch {
	case code != impl.OK:
	case !impl.NameRight(name):
		code = impl.ErrForm
	case branchPlace(h, name) >= 0:
		code = impl.ErrThere
	case len(h.Branches) == 4:
		code = impl.ErrFull
	default:
		out := copyHist(h)
		out.Branches = append(out.Branches, branch(name, h.Branches[branchPlace(h, from)].At))
		slices.SortFunc(out.Branches, func(a, b impl.Branch) int { return strings.Compare(a.Name, b.Name) })
		return impl.HistOut{Hist: out}
	}
	return impl.HistOut{Code: code}
}

func modelUndo(h impl.Hist, name string) impl.HistOut {
	if code := modelCode(h, []string{name}, []string{name}); code != impl.OK {
		return impl.HistOut{Code: code}
	}
	out := copyHist(h)
	b := &out.Branches[branchPlace(h, name)]
	parent := h.Versions[b.At].Parent
	if parent == -1 {
		return impl.HistOut{Code: impl.ErrState}
	}
	b.At, b.Redo = parent, append([]int64{b.At}, b.Redo...)
	return impl.HistOut{Hist: out}
}

func modelRedo(h impl.Hist, name string) impl.HistOut {
	if code := modelCode(h, []string{name}, []string{name}); code != impl.OK {
		return impl.HistOut{Code: code}
	}
	out := copyHist(h)
	b := &out.Branches[branchPlace(h, name)]
	if len(b.Redo) == 0 {
		return impl.HistOut{Code: impl.ErrState}
	}
	b.At, b.Redo = b.Redo[0], b.Redo[1:]
	return impl.HistOut{Hist: out}
}

// modelOrigins are the Version, and all from which it comes, by way after way.
func modelOrigins(h impl.Hist, number int64) map[int64]bool {
	out := map[int64]bool{number: true}
	for _, next := range []int64{h.Versions[number].Parent, h.Versions[number].Other} {
		if next == -1 {
			continue
		}
		for origin := range modelOrigins(h, next) {
			out[origin] = true
		}
	}
	return out
}

func modelCommon(h impl.Hist, a, b int64) int64 {
	size := int64(len(h.Versions))
	if !modelRight(h) || a < 0 || a >= size || b < 0 || b >= size {
		return -1
	}
	common := int64(-1)
	ofB := modelOrigins(h, b)
	for origin := range modelOrigins(h, a) {
		if ofB[origin] {
			common = max(common, origin)
		}
	}
	return common
}

func modelJoin(h impl.Hist, into string, from string) impl.HistOut {
	if code := modelCode(h, []string{into, from}, []string{into, from}); code != impl.OK {
		return impl.HistOut{Code: code}
	}
	a, b := h.Branches[branchPlace(h, into)].At, h.Branches[branchPlace(h, from)].At
	if a == b || modelOrigins(h, a)[b] {
		return impl.HistOut{Code: impl.ErrState}
	}
	merged := impl.Merge(versionGrid(h, modelCommon(h, a, b)), versionGrid(h, a), versionGrid(h, b))
	out := modelGrow(h, into, b, merged.Grid)
	if out.Code == impl.OK {
		out.Clashes = merged.Clashes
	}
	return out
}
