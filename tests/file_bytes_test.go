package tests

import (
	"hash/crc32"
	"testing"

	"loop.example/g00635/impl"
)

// smallHist is of two versions, one of them of a split, and of two branches, one of them gone back.
func smallHist() impl.Hist {
	return impl.Hist{
		Side:     2,
		Pool:     poolOf(leaf(0), leaf(5), split(1, 0, 0, 0)),
		Versions: []impl.Version{version(-1, -1, 0), version(0, -1, 2)},
		Branches: []impl.Branch{branch("b", 1), branch("main", 0, 1)},
	}
}

func TestHistBytesByHand(t *testing.T) {
	body := "\x04" + // Side
		"\x06" + "\x00\x00\x00\x00\x00" + "\x0a\x00\x00\x00\x00" + "\x01\x02\x00\x00\x00" + // nodes
		"\x04" + "\x01\x01\x00" + "\x00\x01\x04" + // Versions
		"\x04" + "\x02b" + "\x02\x00" + "\x08main" + "\x00\x02\x02" // Branches
	crc := crc32.ChecksumIEEE([]byte(body))
	want := body + string([]byte{byte(crc), byte(crc >> 8), byte(crc >> 16), byte(crc >> 24)})
	if got := impl.HistBytes(smallHist()); got != want {
		t.Errorf("got %q, want %q", got, want)
	}
	if got := impl.HistRead(want); !likeHistOut(got, impl.HistOut{Hist: smallHist()}) {
		t.Errorf("got %+v", got)
	}
}

// Numbers above 63 have two bytes.
func TestHistBytesOfGreatNumbers(t *testing.T) {
	parts := fileParts(longest())
	for i, want := range map[int]string{1: "\x90\x03", 2 + 5*199: "\x01", 3 + 5*199: "\x8c\x03", 4 + 5*199: "\x8a\x03"} {
		if got := string(parts[i].bytes); got != want {
			t.Errorf("part %d is %q, want %q", i, got, want)
		}
	}
	if got := impl.HistBytes(longest()); got != fileOf(longest()) {
		t.Errorf("got %d bytes, want %d", len(got), len(fileOf(longest())))
	}
}

func TestHistBytesOfEachHist(t *testing.T) {
	sizes := map[bool]int{}
	for of, h := range fileHists() {
		before := copyHist(h)
		got := impl.HistBytes(h)
		if got != fileOf(h) || got == "" {
			t.Errorf("%s: got %q, want %q", of, got, fileOf(h))
		}
		if again := impl.HistBytes(h); again != got {
			t.Errorf("%s: once more it is %q, it was %q", of, again, got)
		}
		if !likeHist(h, before) {
			t.Errorf("%s: what was handed in is turned", of)
		}
		sizes[len(got) > 1000]++
	}
	if sizes[true] == 0 || sizes[false] == 0 {
		t.Errorf("sizes are %v", sizes)
	}
}

// Two histories that differ in anything have other bytes.
func TestHistBytesTellsHistsApart(t *testing.T) {
	names := map[string]string{}
	hists := fileHists()
	for of, h := range hists {
		b := impl.HistBytes(h)
		if other, there := names[b]; there && !likeHist(h, hists[other]) {
			t.Errorf("%s and %s have the same bytes", of, other)
		}
		names[b] = of
	}
}

func TestHistBytesOfWrongHists(t *testing.T) {
	for of, h := range wrongHists() {
		before := copyHist(h)
		if got := impl.HistBytes(h); got != "" {
			t.Errorf("%s: got %q", of, got)
		}
		if !likeHist(h, before) {
			t.Errorf("%s: what was handed in is turned", of)
		}
	}
}

// Each list of a Hist may have room behind it, which is not read.
func TestHistBytesLeavesRoom(t *testing.T) {
	for of, h := range fileHists() {
		r := roomyOf(h)
		before := r.text()
		if got := impl.HistBytes(r.h); got != fileOf(h) || r.text() != before {
			t.Errorf("%s: got %q, want %q", of, got, fileOf(h))
		}
	}
}
