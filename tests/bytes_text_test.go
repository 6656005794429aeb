package tests

import (
	"math"
	"strings"
	"testing"

	"loop.example/g00635/impl"
)

// longestFit is how long a text may be whose bytes, with the two of its length, still fit into MaxBytes.
const longestFit = impl.MaxBytes - 2

func pattern(size int) string {
	b := make([]byte, size)
	for i := range b {
		b[i] = byte(i*7 + i/256)
	}
	return string(b)
}

func someTexts() []string {
	out := []string{"", "a", "\x00", "\xff", "\x80\x80", "grün", "a\nb"}
	for _, size := range []int{62, 63, 64, 65, 127, 128, 500, longestFit - 1, longestFit} {
		out = append(out, pattern(size))
	}
	return out
}

func TestPutTextBytes(t *testing.T) {
	for _, c := range []struct{ text, want string }{
		{"", "\x00"},
		{"ab", "\x04ab"},
		{strings.Repeat("x", 63), "\x7e" + strings.Repeat("x", 63)},
		{strings.Repeat("x", 64), "\x80\x01" + strings.Repeat("x", 64)},
	} {
		if got := impl.PutText(c.text); got != c.want {
			t.Errorf("PutText(%q) = %q, want %q", c.text, got, c.want)
		}
	}
}

func TestPutTextLimits(t *testing.T) {
	longest := pattern(impl.MaxBytes)
	if got := impl.PutText(longest); got != impl.PutNum(impl.MaxBytes)+longest {
		t.Errorf("PutText of MaxBytes bytes has %d bytes, or others", len(got))
	}
	if got := impl.PutText(longest + "x"); got != "" {
		t.Errorf("PutText of one byte more has %d bytes", len(got))
	}
}

func TestTextsComeBack(t *testing.T) {
	for _, text := range someTexts() {
		b := impl.PutText(text)
		want := impl.TextOut{Text: text, At: int64(len(b))}
		if got := impl.GetText(b, 0); got != want {
			t.Fatalf("text of %d bytes: got At %d, code %d", len(text), got.At, got.Code)
		}
		if len(b) > impl.MaxBytes-5 {
			continue
		}
		want.At += 3
		if got := impl.GetText("\xffxy"+b+"\xffz", 3); got != want {
			t.Fatalf("text of %d bytes between others: got At %d, code %d", len(text), got.At, got.Code)
		}
	}
}

func TestLongestTextThatFits(t *testing.T) {
	if n := len(impl.PutText(pattern(longestFit))); n != impl.MaxBytes {
		t.Fatalf("the longest text that fits has %d bytes", n)
	}
	b := impl.PutText(pattern(longestFit + 1))
	if got := impl.GetText(b, 0); got != (impl.TextOut{Code: impl.ErrSize}) {
		t.Errorf("one byte more: got At %d, code %d", got.At, got.Code)
	}
}

func TestEachCutTextIsShort(t *testing.T) {
	for _, text := range []string{"a", "abc", pattern(70)} {
		b := impl.PutText(text)
		for cut := range len(b) {
			if got := impl.GetText(b[:cut], 0); got != (impl.TextOut{Code: impl.ErrShort}) {
				t.Fatalf("first %d of %d bytes: got %+v", cut, len(b), got)
			}
		}
	}
}

func TestGetTextFaults(t *testing.T) {
	full := strings.Repeat("\x00", impl.MaxBytes)
	for _, c := range []struct {
		name string
		text string
		at   int64
		want int64
	}{
		{"length -1", impl.PutNum(-1), 0, impl.ErrSyntax},
		{"length -1, bytes behind it", impl.PutNum(-1) + "abc", 0, impl.ErrSyntax},
		{"least length", impl.PutNum(math.MinInt64) + "abc", 0, impl.ErrSyntax},
		{"greatest length", impl.PutNum(math.MaxInt64) + "abc", 0, impl.ErrSyntax},
		{"length above MaxBytes", impl.PutNum(impl.MaxBytes+1) + "abc", 0, impl.ErrSyntax},
		{"length above MaxBytes at the end", "x" + impl.PutNum(impl.MaxBytes+1), 1, impl.ErrSyntax},
		{"length MaxBytes", impl.PutNum(impl.MaxBytes) + "abc", 0, impl.ErrShort},
		{"length MaxBytes, as many bytes as may be", impl.PutNum(impl.MaxBytes) + full[2:], 0, impl.ErrShort},
		{"length 1, nothing behind it", "\x02", 0, impl.ErrShort},
		{"length 3, two bytes", "\x06ab", 0, impl.ErrShort},
		{"length 1 in two bytes", "\x82\x00a", 0, impl.ErrSyntax},
		{"length cut off", "a\x82", 1, impl.ErrShort},
		{"too long and below 0", full + "\x00", -1, impl.ErrSize},
		{"too long and a length below 0", "\x01" + full, 0, impl.ErrSize},
	} {
		if got := impl.GetText(c.text, c.at); got != (impl.TextOut{Code: c.want}) {
			t.Errorf("%s: got %+v, want code %d", c.name, got, c.want)
		}
	}
}

func TestNameLengths(t *testing.T) {
	for _, c := range []struct {
		size int
		want bool
	}{{0, false}, {1, true}, {2, true}, {19, true}, {20, true}, {21, false}, {impl.MaxBytes, false}, {impl.MaxBytes + 1, false}} {
		if got := impl.NameRight(strings.Repeat("a", c.size)); got != c.want {
			t.Errorf("name of %d bytes: got %v", c.size, got)
		}
	}
}

func TestNameBytes(t *testing.T) {
	letters := "abcdefghijklmnopqrstuvwxyz"
	further := letters + "0123456789_"
	for i := range 256 {
		b := string([]byte{byte(i)})
		first := strings.Contains(letters, b)
		if got := impl.NameRight(b); got != first {
			t.Errorf("%q alone: got %v", b, got)
		}
		if got := impl.NameRight(b + "a"); got != first {
			t.Errorf("%q first: got %v", b, got)
		}
		may := strings.Contains(further, b)
		for _, name := range []string{"a" + b, "a" + b + "z", "a" + strings.Repeat("9", 18) + b} {
			if got := impl.NameRight(name); got != may {
				t.Errorf("%q: got %v", name, got)
			}
		}
	}
}
