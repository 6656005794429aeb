package tests

import (
	"encoding/binary"
	"fmt"
	"math"
	"math/rand"
	"slices"
	"strings"
	"testing"
	"unsafe"

	"loop.example/g00635/impl"
)

func checkRead(t *testing.T, of string, text string) impl.HistOut {
	t.Helper()
	got, want := impl.HistRead(text), modelFile(text)
	if !likeHistOut(got, want) {
		t.Fatalf("%s, %q:\ngot  %+v\nwant %+v", of, text, got, want)
	}
	if got.Code != impl.OK && !onlyHistCode(got, got.Code) {
		t.Fatalf("%s, %q: beside code %d there is %+v", of, text, got.Code, got)
	}
	return got
}

func checkRefused(t *testing.T, of string, text string, code int64) {
	t.Helper()
	if got := checkRead(t, of, text); got.Code != code {
		t.Errorf("%s: got %+v, want code %d", of, got, code)
	}
}

// fewHists are small ones, of which each byte is turned.
func fewHists() map[string]impl.Hist {
	return map[string]impl.Hist{"small": smallHist(), "family": family(), "new": impl.HistNew(8).Hist, "loosened": loosened(smallHist())}
}

func TestHistReadOfEachHist(t *testing.T) {
	for of, h := range fileHists() {
		if got := checkRead(t, of, fileOf(h)); !likeHistOut(got, impl.HistOut{Hist: h}) {
			t.Errorf("%s: got %+v", of, got)
		}
	}
}

func TestHistReadTooShort(t *testing.T) {
	for _, text := range []string{"", "x", "\x00", "\x00\x00\x00", fileOf(smallHist())[:3], "\xff\xff\xff"} {
		checkRefused(t, "too short", text, impl.ErrShort)
	}
	checkRefused(t, "four bytes that are no sum", "\x00\x00\x00\x01", impl.ErrSum)
	checkRefused(t, "the sum of nothing", "\x00\x00\x00\x00", impl.ErrSyntax)
}

func TestHistReadOfTurnedBytes(t *testing.T) {
	for of, h := range fewHists() {
		text := fileOf(h)
		for at := range len(text) {
			for by := 1; by < 256; by++ {
				if got := impl.HistRead(turnByte(text, at, byte(by))); !onlyHistCode(got, impl.ErrSum) {
					t.Fatalf("%s, byte %d turned by %d: got %+v", of, at, by, got)
				}
			}
		}
	}
	text := fileOf(longest())
	for at := range len(text) {
		if got := impl.HistRead(turnByte(text, at, 1<<(at%8))); !onlyHistCode(got, impl.ErrSum) {
			t.Fatalf("the longest, byte %d turned: got %+v", at, got)
		}
	}
}

// The Seal is looked for ahead of what is in it.
func TestHistReadSumAheadOfSyntax(t *testing.T) {
	for of, body := range map[string]string{"nothing": "", "noughts": "\x00\x00\x00", "cut": fileBody(family())[:20], "left over": fileBody(family()) + "\x00"} {
		checkRefused(t, of, sealed(body), impl.ErrSyntax)
		checkRefused(t, of, sealed(body)+"\x00", impl.ErrSum)
		checkRefused(t, of, turnByte(sealed(body), len(body), 1), impl.ErrSum)
	}
	checkRefused(t, "no Seal", fileBody(family()), impl.ErrSum)
	checkRefused(t, "one byte too few", fileOf(family())[1:], impl.ErrSum)
	checkRefused(t, "one byte too few at the end", fileOf(family())[:len(fileOf(family()))-1], impl.ErrSum)
	checkRefused(t, "sealed twice", sealed(fileOf(family())), impl.ErrSyntax)
}

func TestHistReadOfEachCut(t *testing.T) {
	for of, h := range fileHists() {
		body := fileBody(h)
		for cut := range len(body) {
			if got := impl.HistRead(sealed(body[:cut])); !onlyHistCode(got, impl.ErrSyntax) {
				t.Fatalf("%s, %d of %d bytes: got %+v", of, cut, len(body), got)
			}
		}
	}
}

func TestHistReadOfBytesLeftOver(t *testing.T) {
	for of, h := range fileHists() {
		for b := range 256 {
			checkRefused(t, fmt.Sprint(of, ", and ", b), sealed(fileBody(h)+string([]byte{byte(b)})), impl.ErrSyntax)
		}
		checkRefused(t, of+", twice", sealed(fileBody(h)+fileBody(h)), impl.ErrSyntax)
	}
}

// padded is a number in more bytes than it needs, which tell the same.
func padded(number []byte, more int) []byte {
	out := slices.Clone(number)
	for range more {
		out[len(out)-1] |= 0x80
		out = append(out, 0)
	}
	return out
}

func TestHistReadOfNumbersTooLong(t *testing.T) {
	for _, of := range []string{"small", "family", "loosened"} {
		parts := fileParts(fewHists()[of])
		for at, p := range parts {
			for more := 1; len(p.bytes)+more < 12; more++ {
				long := padded(p.bytes, more)
				if p.what == "name" {
					long = append(padded(p.bytes[:1], more), p.bytes[1:]...)
				}
				checkRefused(t, fmt.Sprintf("%s, part %d, %s, %d bytes more", of, at, p.what, more), sealed(withPart(parts, at, long)), impl.ErrSyntax)
			}
		}
	}
}

// Counts that may not be, at each place where a count stands; all behind it stands as it was.
func TestHistReadOfCounts(t *testing.T) {
	most := map[string]int64{"node count": impl.MaxPool, "version count": impl.MaxVersions, "branch count": impl.MaxBranches, "redo count": impl.MaxVersions}
	for of, h := range fileHists() {
		parts := fileParts(h)
		for at, p := range parts {
			if most[p.what] == 0 {
				continue
			}
			was, _ := binary.Varint(p.bytes)
			for _, n := range []int64{-1, -2, -was, -was - 1, was - 1, was + 1, most[p.what] + 1, 1 << 20, 1 << 40, math.MinInt64, math.MaxInt64} {
				if n != was {
					checkRefused(t, fmt.Sprintf("%s, %s of %d instead of %d", of, p.what, n, was), sealed(withPart(parts, at, binary.AppendVarint(nil, n))), impl.ErrSyntax)
				}
			}
		}
	}
}

// Of counts below 0 no item stands there: all else is as it would be of 0, which is right just of Redo.
func TestHistReadOfCountsBelowNought(t *testing.T) {
	parts := fileParts(impl.HistNew(4).Hist)
	last := len(parts) - 1
	for _, n := range []int64{-1, -2, -64, -65, math.MinInt64} {
		checkRefused(t, fmt.Sprint("Redo of ", n), sealed(withPart(parts, last, binary.AppendVarint(nil, n))), impl.ErrSyntax)
	}
	for _, count := range []int64{0, -1, -2} {
		number := binary.AppendVarint(nil, count)
		none := string(number)
		checkRefused(t, "no nodes", sealed("\x02"+none+"\x02\x01\x01\x00"+"\x02\x02a\x00\x00"), impl.ErrSyntax)
		checkRefused(t, "no versions", sealed("\x02"+"\x02\x00\x00\x00\x00\x00"+none+"\x02\x02a\x00\x00"), impl.ErrSyntax)
		checkRefused(t, "no branches", sealed("\x02"+"\x02\x00\x00\x00\x00\x00"+"\x02\x01\x01\x00"+none), impl.ErrSyntax)
	}
	if got := checkRead(t, "one of each", sealed("\x02"+"\x02\x00\x00\x00\x00\x00"+"\x02\x01\x01\x00"+"\x02\x02a\x00\x00")); got.Code != impl.OK {
		t.Errorf("one of each: got %+v", got)
	}
}

// A count may be as great as it likes where nothing follows.
func TestHistReadOfCountsOfWhatFollows(t *testing.T) {
	for of, h := range fewHists() {
		parts := fileParts(h)
		for at, p := range parts {
			if !strings.HasSuffix(p.what, "count") {
				continue
			}
			for _, n := range []int64{1, 2, 4, 13, 14, 15, 199, 200, 201, math.MaxInt64} {
				text := sealed(joinParts(parts[:at]) + string(binary.AppendVarint(nil, n)))
				checkRefused(t, fmt.Sprintf("%s, %s of %d, and the end", of, p.what, n), text, impl.ErrSyntax)
			}
		}
	}
}

func TestHistReadOfNames(t *testing.T) {
	for _, c := range []struct {
		name string
		want int64
	}{
		{"a", impl.OK}, {"zz9_", impl.OK}, {longName(20), impl.OK}, {longName(21), impl.ErrSyntax}, {"", impl.ErrSyntax}, {"9", impl.ErrSyntax},
		{"_a", impl.ErrSyntax}, {"A", impl.ErrSyntax}, {"a b", impl.ErrSyntax}, {"a\n", impl.ErrSyntax}, {"\x00", impl.ErrSyntax}, {"ä", impl.ErrSyntax},
		{"a\xff", impl.ErrSyntax}, {longName(1000), impl.ErrSyntax},
	} {
		h := line(3, 1, 2)
		h.Branches[0].Name = c.name
		checkRefused(t, fmt.Sprintf("%.30q", c.name), fileOf(h), c.want)
	}
	parts := fileParts(line(3, 1, 2))
	at := slices.IndexFunc(parts, func(p filePart) bool { return p.what == "name" })
	for _, size := range []int64{-1, -4, 3, 5, 20, impl.MaxBytes, impl.MaxBytes + 1, math.MinInt64, math.MaxInt64} {
		text := sealed(withPart(parts, at, append(binary.AppendVarint(nil, size), "main"...)))
		checkRefused(t, fmt.Sprint("a name said to have ", size), text, impl.ErrSyntax)
	}
}

func TestHistReadOfWrongHists(t *testing.T) {
	counts := map[int64]int{}
	for of, h := range wrongHists() {
		text := fileOf(h)
		want := int64(impl.ErrSyntax)
		if len(text) > impl.MaxBytes {
			want = impl.ErrSize
		}
		checkRefused(t, of, text, want)
		counts[want]++
	}
	if counts[impl.ErrSyntax] < 60 || counts[impl.ErrSize] == 0 {
		t.Errorf("counts are %v", counts)
	}
}

func TestHistReadSizes(t *testing.T) {
	for _, size := range []int{impl.MaxBytes - 1, impl.MaxBytes, impl.MaxBytes + 1, 2 * impl.MaxBytes} {
		body := fileBody(family())
		body += strings.Repeat("\x00", size-4-len(body))
		good, bad := int64(impl.ErrSyntax), int64(impl.ErrSum)
		if size > impl.MaxBytes {
			good, bad = impl.ErrSize, impl.ErrSize
		}
		checkRefused(t, fmt.Sprint(size, " bytes, a good Seal"), sealed(body), good)
		checkRefused(t, fmt.Sprint(size, " bytes, a bad Seal"), turnByte(sealed(body), size-1, 1), bad)
		checkRefused(t, fmt.Sprint(size, " noughts"), strings.Repeat("\x00", size), bad)
	}
	if n := len(fileOf(longest())); n > impl.MaxBytes/2 {
		t.Errorf("the longest has %d bytes", n)
	}
}

// Each number of the bytes, made another one, and sealed anew: right or not, as the document says word by word.
func TestHistReadOfEachNumber(t *testing.T) {
	counts := map[int64]int{}
	others := []int64{-3, -2, -1, 0, 1, 2, 3, 4, 5, 6, 7, 8, 9, 10, 13, 14, 15, 63, 64, 199, 200, 201, math.MinInt64, math.MaxInt64}
	for of, h := range fileHists() {
		parts := fileParts(h)
		for at, p := range parts {
			if p.what == "name" || len(parts) > 300 && at%29 != 0 {
				continue
			}
			for _, n := range others {
				got := checkRead(t, fmt.Sprintf("%s, part %d, %s of %d", of, at, p.what, n), sealed(withPart(parts, at, binary.AppendVarint(nil, n))))
				counts[got.Code]++
			}
		}
	}
	if counts[impl.OK] < 500 || counts[impl.ErrSyntax] < 5000 {
		t.Errorf("counts are %v", counts)
	}
}

// Each byte of a few, made each other one, and sealed anew.
func TestHistReadOfEachByteSealedAnew(t *testing.T) {
	for of, h := range fewHists() {
		body := fileBody(h)
		for at := range len(body) {
			for by := range 256 {
				checkRead(t, of, sealed(turnByte(body, at, byte(by))))
			}
		}
	}
}

// Whatever bytes come, it answers, and what is read is written just so.
func TestHistReadOfWhateverComes(t *testing.T) {
	r := rand.New(rand.NewSource(7))
	bodies := []string{""}
	for _, h := range fewHists() {
		bodies = append(bodies, fileBody(h))
	}
	slices.Sort(bodies)
	for range 60000 {
		b := []byte(bodies[r.Intn(len(bodies))])
		for range r.Intn(4) {
			at := r.Intn(len(b) + 1)
			switch r.Intn(3) {
			case 0:
				b = slices.Insert(b, at, byte(r.Intn(256)>>r.Intn(8)))
			case 1:
				b = slices.Delete(b, at, min(at+r.Intn(3), len(b)))
			default:
				b = append(b[:at], append([]byte{byte(r.Intn(12))}, b[at:]...)...)
			}
		}
		checkRead(t, "whatever", string(b))
		checkRead(t, "whatever, sealed", sealed(string(b)))
	}
	for range 2000 {
		b := make([]byte, r.Intn(impl.MaxBytes+20))
		r.Read(b)
		checkRead(t, "random", string(b))
		checkRead(t, "random, sealed", sealed(string(b)))
	}
}

func TestHistReadIsNewMemory(t *testing.T) {
	for of, h := range fileHists() {
		text := fileOf(h)
		got, again := impl.HistRead(text), impl.HistRead(text)
		from := uintptr(unsafe.Pointer(unsafe.StringData(text)))
		for _, b := range got.Hist.Branches {
			if at := uintptr(unsafe.Pointer(unsafe.StringData(b.Name))); at >= from && at < from+uintptr(len(text)) {
				t.Errorf("%s: the name %s shares memory with the text", of, b.Name)
			}
		}
		for i, list := range scribble(got.Hist) {
			if slices.ContainsFunc(list, func(n int64) bool { return n != int64(1000+i) }) {
				t.Errorf("%s: two lists of the answer share memory", of)
			}
		}
		if !likeHist(again.Hist, h) {
			t.Errorf("%s: two answers share memory", of)
		}
	}
}
