package tests

import (
	"hash/crc32"
	"math"
	"strings"
	"testing"

	"loop.example/g00635/impl"
)

func TestCrc(t *testing.T) {
	if got := impl.Crc("123456789"); got != 0xCBF43926 {
		t.Errorf("Crc of the digits: got %x", got)
	}
	if got := impl.Crc(""); got != 0 {
		t.Errorf("Crc of nothing: got %x", got)
	}
	for _, text := range append(someTexts(), pattern(impl.MaxBytes)) {
		want := int64(crc32.ChecksumIEEE([]byte(text)))
		if got := impl.Crc(text); got != want {
			t.Errorf("Crc of %d bytes: got %x, want %x", len(text), got, want)
		}
	}
	if got := impl.Crc(pattern(impl.MaxBytes + 1)); got != 0 {
		t.Errorf("Crc of too many bytes: got %x", got)
	}
}

func TestCrcOfEachByte(t *testing.T) {
	for i := range 256 {
		b := []byte{byte(i)}
		if got := impl.Crc(string(b)); got != int64(crc32.ChecksumIEEE(b)) {
			t.Errorf("byte %d: got %x", i, got)
		}
	}
}

func TestCrcGoesOn(t *testing.T) {
	for _, a := range someTexts() {
		for _, b := range someTexts() {
			want := int64(crc32.ChecksumIEEE([]byte(a + b)))
			if got := impl.CrcMore(impl.Crc(a), b); got != want {
				t.Fatalf("of %d and %d bytes: got %x, want %x", len(a), len(b), got, want)
			}
		}
	}
	text := pattern(300)
	for cut := range len(text) + 1 {
		if got := impl.CrcMore(impl.Crc(text[:cut]), text[cut:]); got != impl.Crc(text) {
			t.Fatalf("cut at %d: got %x", cut, got)
		}
	}
}

// The CRC of more than MaxBytes bytes can still be reached piece by piece.
func TestCrcGoesOnPastMaxBytes(t *testing.T) {
	piece := pattern(impl.MaxBytes)
	want := int64(crc32.ChecksumIEEE([]byte(piece + piece)))
	if got := impl.CrcMore(impl.Crc(piece), piece); got != want {
		t.Errorf("got %x, want %x", got, want)
	}
}

func TestCrcMoreLimits(t *testing.T) {
	for _, crc := range []int64{-1, 1 << 32, 1<<32 + 5, math.MinInt64, math.MaxInt64} {
		for _, text := range []string{"", "a"} {
			if got := impl.CrcMore(crc, text); got != 0 {
				t.Errorf("CrcMore(%d, %q): got %x", crc, text, got)
			}
		}
	}
	for _, crc := range []int64{0, 1, 0x80000000, 1<<32 - 1} {
		want := int64(crc32.Update(uint32(crc), crc32.IEEETable, []byte("a")))
		if got := impl.CrcMore(crc, "a"); got != want {
			t.Errorf("CrcMore(%d, a): got %x, want %x", crc, got, want)
		}
		if got := impl.CrcMore(crc, ""); got != crc {
			t.Errorf("CrcMore(%d, nothing): got %x", crc, got)
		}
		if got := impl.CrcMore(crc, pattern(impl.MaxBytes+1)); got != 0 {
			t.Errorf("CrcMore(%d, too many bytes): got %x", crc, got)
		}
	}
}

func TestSealBytes(t *testing.T) {
	for _, c := range []struct{ text, want string }{
		{"", "\x00\x00\x00\x00"},
		{"123456789", "123456789\x26\x39\xf4\xcb"},
	} {
		if got := impl.Seal(c.text); got != c.want {
			t.Errorf("Seal(%q) = %q, want %q", c.text, got, c.want)
		}
	}
}

func TestSealedTextsComeBack(t *testing.T) {
	for _, text := range append(someTexts(), pattern(impl.MaxBytes-5), pattern(impl.MaxBytes-4)) {
		if len(text) > impl.MaxBytes-4 {
			continue
		}
		sealed := impl.Seal(text)
		if len(sealed) != len(text)+4 {
			t.Fatalf("Seal of %d bytes has %d", len(text), len(sealed))
		}
		if got := impl.Unseal(sealed); got != (impl.TextOut{Text: text}) {
			t.Fatalf("%d bytes: got At %d, code %d", len(text), got.At, got.Code)
		}
	}
}

func TestSealLimits(t *testing.T) {
	for _, size := range []int{impl.MaxBytes - 3, impl.MaxBytes, impl.MaxBytes + 1} {
		if got := impl.Seal(pattern(size)); got != "" {
			t.Errorf("Seal of %d bytes has %d", size, len(got))
		}
	}
}

func turnByte(text string, at int, by byte) string {
	b := []byte(text)
	b[at] ^= by
	return string(b)
}

func TestOneByteTurnedIsRefused(t *testing.T) {
	for _, text := range []string{"", "a", "ab\x00\xff", pattern(40)} {
		sealed := impl.Seal(text)
		for at := range len(sealed) {
			for by := 1; by < 256; by++ {
				got := impl.Unseal(turnByte(sealed, at, byte(by)))
				if got != (impl.TextOut{Code: impl.ErrSum}) {
					t.Fatalf("%d bytes, byte %d turned by %d: got %+v", len(text), at, by, got)
				}
			}
		}
	}
}

func TestOneByteOfTheLongestTurnedIsRefused(t *testing.T) {
	sealed := impl.Seal(pattern(impl.MaxBytes - 4))
	for at := 0; at < len(sealed); at += 13 {
		got := impl.Unseal(turnByte(sealed, at, 1<<(at%8)))
		if got != (impl.TextOut{Code: impl.ErrSum}) {
			t.Fatalf("byte %d turned: got At %d, code %d", at, got.At, got.Code)
		}
	}
}

func TestUnsealFaults(t *testing.T) {
	full := strings.Repeat("\x00", impl.MaxBytes)
	for _, c := range []struct {
		name string
		text string
		want int64
	}{
		{"nothing", "", impl.ErrShort},
		{"one byte", "\x00", impl.ErrShort},
		{"three bytes", "\x00\x00\x00", impl.ErrShort},
		{"four bytes that are no sum", "\x00\x00\x00\x01", impl.ErrSum},
		{"the sum, its highest byte first", "123456789\xcb\xf4\x39\x26", impl.ErrSum},
		{"a byte too many", impl.Seal("ab") + "\x00", impl.ErrSum},
		{"a byte too few", impl.Seal("ab")[:5], impl.ErrSum},
		{"MaxBytes bytes that are no seal", full, impl.ErrSum},
		{"too long", full + "\x00", impl.ErrSize},
	} {
		if got := impl.Unseal(c.text); got != (impl.TextOut{Code: c.want}) {
			t.Errorf("%s: got %+v, want code %d", c.name, got, c.want)
		}
	}
	long := pattern(impl.MaxBytes - 3)
	crc := crc32.ChecksumIEEE([]byte(long))
	sealed := long + string([]byte{byte(crc), byte(crc >> 8), byte(crc >> 16), byte(crc >> 24)})
	if got := impl.Unseal(sealed); got != (impl.TextOut{Code: impl.ErrSize}) {
		t.Errorf("a good sum of one byte too many: got At %d, code %d", got.At, got.Code)
	}
}
