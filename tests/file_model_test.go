package tests

import (
	"encoding/binary"
	"hash/crc32"
	"slices"

	"loop.example/g00635/impl"
)

// filePart is one number, or one text, of a history's bytes, and what it is.
type filePart struct {
	what  string
	bytes []byte
}

func numPart(what string, n int64) filePart {
	return filePart{what, binary.AppendVarint(nil, n)}
}

func textPart(what string, text string) filePart {
	return filePart{what, append(binary.AppendVarint(nil, int64(len(text))), text...)}
}

// fileParts writes any Hist as the document says, whether it is right or not.
func fileParts(h impl.Hist) []filePart {
	out := []filePart{numPart("side", h.Side), numPart("node count", int64(len(h.Pool.Nodes)))}
	for _, n := range h.Pool.Nodes {
		out = append(out, numPart("tile", n.Tile), numPart("quarter", n.A), numPart("quarter", n.B), numPart("quarter", n.C), numPart("quarter", n.D))
	}
	out = append(out, numPart("version count", int64(len(h.Versions))))
	for _, v := range h.Versions {
		out = append(out, numPart("parent", v.Parent), numPart("other", v.Other), numPart("root", v.Root))
	}
	out = append(out, numPart("branch count", int64(len(h.Branches))))
	for _, b := range h.Branches {
		out = append(out, textPart("name", b.Name), numPart("at", b.At), numPart("redo count", int64(len(b.Redo))))
		for _, r := range b.Redo {
			out = append(out, numPart("redo", r))
		}
	}
	return out
}

func joinParts(parts []filePart) string {
	var out []byte
	for _, p := range parts {
		out = append(out, p.bytes...)
	}
	return string(out)
}

// withPart has other bytes in place of one part.
func withPart(parts []filePart, at int, bytes []byte) string {
	out := slices.Clone(parts)
	out[at].bytes = bytes
	return joinParts(out)
}

func fileBody(h impl.Hist) string {
	return joinParts(fileParts(h))
}

// sealed has behind a text, however long, its CRC.
func sealed(text string) string {
	return string(binary.LittleEndian.AppendUint32([]byte(text), crc32.ChecksumIEEE([]byte(text))))
}

func fileOf(h impl.Hist) string {
	return sealed(fileBody(h))
}

// looseReader reads numbers in however many bytes, and goes on, with noughts, where there are none.
type looseReader struct {
	rest []byte
	bad  bool
}

func (r *looseReader) num() int64 {
	n, size := binary.Varint(r.rest)
	if size <= 0 {
		r.bad = true
		return 0
	}
	r.rest = r.rest[size:]
	return n
}

func (r *looseReader) text() string {
	size := r.num()
	if size < 0 || size > int64(len(r.rest)) {
		r.bad = true
		return ""
	}
	text := string(r.rest[:size])
	r.rest = r.rest[size:]
	return text
}

// each calls as often as the next number says, and not at all, if that is more than any right Hist may have.
func (r *looseReader) each(do func()) {
	count := r.num()
	if count > 200 {
		r.bad = true
	}
	for i := int64(0); i < count && !r.bad; i++ {
		do()
	}
}

func looseRead(body string) (impl.Hist, bool) {
	r := &looseReader{rest: []byte(body)}
	h := impl.Hist{Side: r.num()}
	r.each(func() {
		h.Pool.Nodes = append(h.Pool.Nodes, impl.Node{Tile: r.num(), A: r.num(), B: r.num(), C: r.num(), D: r.num()})
	})
	r.each(func() {
		h.Versions = append(h.Versions, version(r.num(), r.num(), r.num()))
	})
	r.each(func() {
		b := branch(r.text(), r.num())
		r.each(func() { b.Redo = append(b.Redo, r.num()) })
		h.Branches = append(h.Branches, b)
	})
	return h, !r.bad
}

// modelFile is the right Hist whose bytes these are: whatever was read, it must be written just so.
func modelFile(text string) impl.HistOut {
	if len(text) > 8000 {
		return impl.HistOut{Code: impl.ErrSize}
	}
	if len(text) < 4 {
		return impl.HistOut{Code: impl.ErrShort}
	}
	body := text[:len(text)-4]
	if sealed(body) != text {
		return impl.HistOut{Code: impl.ErrSum}
	}
	h, ok := looseRead(body)
	if !ok || !modelRight(h) || fileBody(h) != body {
		return impl.HistOut{Code: impl.ErrSyntax}
	}
	return impl.HistOut{Hist: h}
}

func modelPrune(h impl.Hist) impl.HistOut {
	if !modelRight(h) {
		return impl.HistOut{Code: impl.ErrForm}
	}
	out := copyHist(h)
	out.Pool.Nodes = nil
	for i := range out.Versions {
		out.Pool.Nodes, out.Versions[i].Root = modelPut(out.Pool.Nodes, versionGrid(h, int64(i)), 0, 0, h.Side)
	}
	return impl.HistOut{Hist: out}
}

func callPrune() histCall {
	return histCall{"Prune", impl.Prune, modelPrune}
}

// callFile writes and reads again, which makes of a right Hist one that is alike.
func callFile() histCall {
	return histCall{
		"HistRead of HistBytes",
		func(h impl.Hist) impl.HistOut { return impl.HistRead(impl.HistBytes(h)) },
		func(h impl.Hist) impl.HistOut { return impl.HistOut{Hist: h} },
	}
}

// loosened is the same history in a Pool of other nodes ahead of, among and behind those that its Versions need, the
// last Version put first.
func loosened(h impl.Hist) impl.Hist {
	out := copyHist(h)
	out.Pool = poolOf(leaf(8), leaf(1), split(0, 1, 1, 0))
	for i := len(h.Versions) - 1; i >= 0; i-- {
		g := versionGrid(h, int64(i))
		put := impl.PoolPut(out.Pool, g)
		out.Versions[i].Root = put.Root
		g.Tiles[0] = (g.Tiles[0] + 3) % 10
		out.Pool = impl.PoolPut(put.Pool, g).Pool
	}
	return out
}

// fileHists are right ones, with nodes that no Version needs, and without such.
func fileHists() map[string]impl.Hist {
	out := someHists()
	out["woven"] = woven()
	out["longest"] = longest()
	for _, name := range []string{"family", "a line", "full of versions", "new of 1", "new of 8"} {
		out[name+", loosened"] = loosened(out[name])
	}
	for name, p := range somePools() {
		if len(p.Nodes) > 0 {
			h := line(1, 0)
			h.Pool = p
			out["Pool: "+name] = h
		}
	}
	return out
}

// longest has of all as many as may be, of names, numbers and Redo too.
func longest() impl.Hist {
	h := impl.Hist{Side: 8, Pool: tower(impl.MaxPool)}
	h.Pool.Nodes[impl.MaxPool-1] = split(impl.MaxPool-2, impl.MaxPool-3, impl.MaxPool-4, impl.MaxPool-5)
	var redo []int64
	for i := range int64(impl.MaxVersions) {
		h.Versions = append(h.Versions, version(i-1, max(i-2, -1), i%5))
		redo = append(redo, i)
	}
	for i := range impl.MaxBranches {
		h.Branches = append(h.Branches, branch(longName(19)+string(rune('a'+i)), 0, redo[1:]...))
	}
	return h
}
