package tests

import (
	"encoding/binary"
	"math"
	"math/rand"
	"strings"
	"testing"

	"loop.example/g00635/impl"
)

// edgeNums are the numbers where one more byte begins to be needed, those beside them, and the ends of int64.
func edgeNums() []int64 {
	out := []int64{0, 1, -1, 2, -2, math.MaxInt64, math.MaxInt64 - 1, math.MinInt64, math.MinInt64 + 1}
	for bits := 6; bits < 63; bits++ {
		p := int64(1) << bits
		out = append(out, p-1, p, p+1, -p-1, -p, -p+1)
	}
	return out
}

func someNums() []int64 {
	r := rand.New(rand.NewSource(1))
	out := edgeNums()
	for range 2000 {
		out = append(out, int64(r.Uint64())>>r.Intn(64))
	}
	return out
}

func TestPutNumBytes(t *testing.T) {
	for _, c := range []struct {
		n    int64
		want string
	}{
		{0, "\x00"},
		{-1, "\x01"},
		{1, "\x02"},
		{63, "\x7e"},
		{-64, "\x7f"},
		{64, "\x80\x01"},
		{-65, "\x81\x01"},
		{8191, "\xfe\x7f"},
		{-8192, "\xff\x7f"},
		{8192, "\x80\x80\x01"},
		{math.MaxInt64, "\xfe\xff\xff\xff\xff\xff\xff\xff\xff\x01"},
		{math.MinInt64, "\xff\xff\xff\xff\xff\xff\xff\xff\xff\x01"},
	} {
		if got := impl.PutNum(c.n); got != c.want {
			t.Errorf("PutNum(%d) = %q, want %q", c.n, got, c.want)
		}
	}
}

func TestPutNumLikeVarint(t *testing.T) {
	for _, n := range someNums() {
		want := string(binary.AppendVarint(nil, n))
		if got := impl.PutNum(n); got != want {
			t.Fatalf("PutNum(%d) = %q, want %q", n, got, want)
		}
	}
}

func TestNumsComeBack(t *testing.T) {
	for _, n := range someNums() {
		b := impl.PutNum(n)
		if len(b) < 1 || len(b) > 10 {
			t.Fatalf("PutNum(%d) has %d bytes", n, len(b))
		}
		for _, ahead := range []string{"", "\x80", "abc"} {
			for _, behind := range []string{"", "\x00", "\xff\xff"} {
				want := impl.NumOut{N: n, At: int64(len(ahead) + len(b))}
				if got := impl.GetNum(ahead+b+behind, int64(len(ahead))); got != want {
					t.Fatalf("GetNum of %d between %q and %q: got %+v, want %+v", n, ahead, behind, got, want)
				}
			}
		}
	}
}

func TestNumsInARowComeBack(t *testing.T) {
	var text strings.Builder
	nums := edgeNums()
	for _, n := range nums {
		text.WriteString(impl.PutNum(n))
	}
	at := int64(0)
	for _, n := range nums {
		got := impl.GetNum(text.String(), at)
		if got.Code != impl.OK || got.N != n {
			t.Fatalf("at %d: got %+v, want %d", at, got, n)
		}
		at = got.At
	}
	if at != int64(text.Len()) {
		t.Errorf("ended at %d of %d", at, text.Len())
	}
}

func TestEachCutNumIsShort(t *testing.T) {
	for _, n := range edgeNums() {
		b := impl.PutNum(n)
		for cut := range b {
			if got := impl.GetNum(b[:cut], 0); got != (impl.NumOut{Code: impl.ErrShort}) {
				t.Fatalf("first %d bytes of %d: got %+v", cut, n, got)
			}
		}
	}
}

func TestGetNumFaults(t *testing.T) {
	nine := strings.Repeat("\xff", 9)
	zeros := strings.Repeat("\x80", 9)
	full := strings.Repeat("\x02", impl.MaxBytes)
	for _, c := range []struct {
		name string
		text string
		at   int64
		want int64
	}{
		{"below 0", "\x02", -1, impl.ErrForm},
		{"far below 0", "\x02", math.MinInt64, impl.ErrForm},
		{"below 0 of the empty text", "", -1, impl.ErrForm},
		{"below 0 of a number that is none", "\x80\x00", -1, impl.ErrForm},
		{"empty", "", 0, impl.ErrShort},
		{"at the end", "\x02", 1, impl.ErrShort},
		{"behind the end", "\x02", 2, impl.ErrShort},
		{"far behind the end", "\x02", math.MaxInt64, impl.ErrShort},
		{"at the end of the longest text", full, impl.MaxBytes, impl.ErrShort},
		{"one byte, and more to come", "\x80", 0, impl.ErrShort},
		{"nine bytes, and more to come", nine, 0, impl.ErrShort},
		{"nine bytes that say nothing, and more to come", zeros, 0, impl.ErrShort},
		{"tenth byte 2", nine + "\x02", 0, impl.ErrSyntax},
		{"tenth byte 127", nine + "\x7f", 0, impl.ErrSyntax},
		{"tenth byte 128", nine + "\x80", 0, impl.ErrSyntax},
		{"tenth byte 129, another behind it", nine + "\x81\x00", 0, impl.ErrSyntax},
		{"ten times 255", nine + "\xff", 0, impl.ErrSyntax},
		{"eleven times 255", nine + "\xff\xff", 0, impl.ErrSyntax},
		{"tenth byte 0", nine + "\x00", 0, impl.ErrSyntax},
		{"0 in two bytes", "\x80\x00", 0, impl.ErrSyntax},
		{"-1 in two bytes", "\x81\x00", 0, impl.ErrSyntax},
		{"64 in three bytes", "\x80\x81\x00", 0, impl.ErrSyntax},
		{"0 in ten bytes", zeros + "\x00", 0, impl.ErrSyntax},
		{"two bytes, further on", "x\xff\x00", 1, impl.ErrSyntax},
		{"too long", full + "\x02", 0, impl.ErrSize},
		{"too long and below 0", full + "\x02", -1, impl.ErrSize},
		{"too long and behind the end", full + "\x02", math.MaxInt64, impl.ErrSize},
		{"too long and no number", "\x80\x00" + full, 0, impl.ErrSize},
	} {
		if got := impl.GetNum(c.text, c.at); got != (impl.NumOut{Code: c.want}) {
			t.Errorf("GetNum, %s: got %+v, want code %d", c.name, got, c.want)
		}
		if got := impl.GetText(c.text, c.at); got != (impl.TextOut{Code: c.want}) {
			t.Errorf("GetText, %s: got %+v, want code %d", c.name, got, c.want)
		}
	}
}

func TestGetNumOfTheLongestText(t *testing.T) {
	full := strings.Repeat("\x02", impl.MaxBytes)
	for _, at := range []int64{0, 1, impl.MaxBytes - 1} {
		if got := impl.GetNum(full, at); got != (impl.NumOut{N: 1, At: at + 1}) {
			t.Errorf("at %d: got %+v", at, got)
		}
	}
}

func TestTenthByteOfOne(t *testing.T) {
	want := impl.NumOut{N: math.MaxInt64/2 + 1, At: 10}
	if got := impl.GetNum(strings.Repeat("\x80", 9)+"\x01", 0); got != want {
		t.Errorf("got %+v, want %+v", got, want)
	}
}

// Of each two bytes GetNum reads just those that PutNum may have written.
func TestGetNumOfAnyTwoBytes(t *testing.T) {
	for a := range 256 {
		for b := range 256 {
			text := string([]byte{byte(a), byte(b)})
			got := impl.GetNum(text, 0)
			var code int64
			switch {
			case a >= 128 && b >= 128:
				code = impl.ErrShort
			case a >= 128 && b == 0:
				code = impl.ErrSyntax
			}
			if got.Code != code {
				t.Fatalf("%q: got %+v, want code %d", text, got, code)
			}
			if code == impl.OK && impl.PutNum(got.N) != text[:got.At] {
				t.Fatalf("%q: read as %+v, which is written otherwise", text, got)
			}
			if code != impl.OK && (got.N != 0 || got.At != 0) {
				t.Fatalf("%q: something beside a code: %+v", text, got)
			}
		}
	}
}
