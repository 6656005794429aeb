package tests

import (
	"regexp"
	"strings"
	"testing"

	"loop.example/g00635/impl"
)

// rightStampText holds of texts that are some right Stamp's: 1 to 8 rows, of 1 to 8 signs, each row as long as the first.
func rightStampText(text string) bool {
	rest, whole := strings.CutSuffix(text, "\n")
	lines := strings.Split(rest, "\n")
	if !whole || len(lines) > impl.MaxSide {
		return false
	}
	row := regexp.MustCompile(`\A[0-9.]{1,8}\z`)
	for _, line := range lines {
		if len(line) != len(lines[0]) || !row.MatchString(line) {
			return false
		}
	}
	return true
}

// checkStampRead holds what is read of a text against what it looks like.
func checkStampRead(t *testing.T, text string) {
	t.Helper()
	got := impl.StampRead(text)
	if !rightStampText(text) {
		if !onlyStampCode(got, impl.ErrSyntax) {
			t.Fatalf("%q: got %+v", text, got)
		}
		return
	}
	if !rightStampOut(got, stampOf(text)) {
		t.Fatalf("%q: got %+v", text, got)
	}
	if again := impl.StampText(got.Stamp); again != text {
		t.Fatalf("%q: comes back as %q", text, again)
	}
}

func TestStampTextByHand(t *testing.T) {
	for of, want := range map[string]string{
		"0": "0\n", "9": "9\n", ".": ".\n", "1.2": "1.2\n", "1 . 2": "1\n.\n2\n", "12 34": "12\n34\n", "0.9 ...": "0.9\n...\n",
		"01234567 89......": "01234567\n89......\n", "1 2 3 4 5 6 7 8": "1\n2\n3\n4\n5\n6\n7\n8\n",
	} {
		if got := impl.StampText(stampOf(of)); got != want {
			t.Errorf("%q: got %q", of, got)
		}
		if got := impl.StampRead(want); !rightStampOut(got, stampOf(of)) {
			t.Errorf("%q: got %+v", want, got)
		}
	}
}

func TestStampTextLikeModel(t *testing.T) {
	eachStamp(func(s impl.Stamp) {
		before := copyStamp(s)
		if got := impl.StampText(s); got != modelStampText(before) {
			t.Errorf("%+v: got %q", before, got)
		}
		if !likeStamp(s, before) {
			t.Errorf("%+v: is turned", before)
		}
	})
}

func TestStampTextWrongStamps(t *testing.T) {
	for name, s := range wrongStamps() {
		if got := impl.StampText(s); got != "" {
			t.Errorf("%s: got %q", name, got)
		}
	}
}

// A map's text is that of the Stamp of all of it; one with a hole is no map's.
func TestStampTextOfMaps(t *testing.T) {
	for _, side := range rightSides() {
		for _, g := range someGrids(side) {
			s := impl.StampOf(g, 0, 0, side, side).Stamp
			text := impl.StampText(s)
			if text != impl.GridText(g) {
				t.Fatalf("%+v: got %q", g, text)
			}
			for at := range s.Tiles {
				s.Tiles[at] = -1
				if got := impl.GridRead(impl.StampText(s)); !onlyCode(got, impl.ErrSyntax) {
					t.Fatalf("%+v with a hole at %d: got %+v", g, at, got)
				}
				s.Tiles[at] = g.Tiles[at]
			}
		}
	}
}

func TestStampReadSyntax(t *testing.T) {
	for _, text := range []string{
		"", "\n", "\n\n", "0", ".", "12", "..", "12\n34", "1.\n.1",
		"12\n3\n", "1\n23\n", "12\n345\n", "123\n45\n", "1\n2\n34\n", "12\n34\n5\n", "12\n34\n5", "..\n.\n", ".\n..\n",
		"1\n\n2\n", "\n1\n", "1\n\n", "12\n\n", "\n12\n34\n", "12\n\n34\n", ".\n\n",
		"123456789\n", ".........\n", "1\n2\n3\n4\n5\n6\n7\n8\n9\n", strings.Repeat(".\n", 9),
		strings.Repeat("123456789\n", 9), strings.Repeat("12345678\n", 9), strings.Repeat("123456789\n", 8),
		"1 2\n", " 1\n", "1 \n", "1\n ", "1\t2\n", "1\r\n2\r\n", "1\r2\r", "1\x00\n", "\x00\n",
		"-1\n", "+1\n", "1-\n", "1,2\n", "1/\n", "1:\n", "a\n", "A\n", "#\n", "?\n", "x\n", "12\n3x\n",
	} {
		if rightStampText(text) {
			t.Fatalf("%q: looks right", text)
		}
		checkStampRead(t, text)
	}
}

func TestStampReadOtherRunes(t *testing.T) {
	for _, text := range []string{
		"\xff\n", "\x80\n", "\xc2\n", "\xc0\xae\n", "\xc0\xb1\n", "1\xff\n34\n", "12\n3\xc3\n", "12\n34\n\xff", "\xff12\n34\n",
		"\u0661\n", "\uff11\n", "\uff0e\n", "\u2024\n", "\u00b7\n", "\u3002\n", "\u012e\n", "\U0001002e\n", "\u0130\n", "\u010a", "1\u0085", "1\u2028", "\ufeff1\n", "\ufffd\n",
	} {
		checkStampRead(t, text)
		if got := impl.StampRead(text); !onlyStampCode(got, impl.ErrSyntax) {
			t.Errorf("%q: got %+v", text, got)
		}
	}
}

// With any one byte other than it is, a Stamp's text is another Stamp's, or none.
func TestStampReadEachByteTurned(t *testing.T) {
	for _, text := range []string{"1.3\n.56\n", "5\n", ".\n.\n.\n"} {
		for at := range len(text) {
			for b := range 256 {
				other := []byte(text)
				other[at] = byte(b)
				checkStampRead(t, string(other))
			}
		}
	}
}

func TestStampReadCutAndLonger(t *testing.T) {
	eachStamp(func(s impl.Stamp) {
		text := modelStampText(s)
		checkStampRead(t, text)
		for at := range len(text) {
			checkStampRead(t, text[:at])
			checkStampRead(t, text[at:])
			checkStampRead(t, text[:at]+text[at+1:])
			for _, more := range []string{"0", ".", "\n", " "} {
				checkStampRead(t, text[:at]+more+text[at:])
			}
		}
		for _, more := range []string{"0", ".", "\n", "0\n", ".\n", text} {
			checkStampRead(t, text+more)
			checkStampRead(t, more+text)
		}
	})
}

func TestStampReadSize(t *testing.T) {
	for _, fill := range []string{"0", ".", "\n", "x", "\xff", "0123.567\n"} {
		full := strings.Repeat(fill, impl.MaxBytes)[:impl.MaxBytes]
		if got := impl.StampRead(full); !onlyStampCode(got, impl.ErrSyntax) {
			t.Errorf("MaxBytes bytes of %q: code %d", fill, got.Code)
		}
		for _, text := range []string{full + "0", full + "\n", "12\n34\n" + full, strings.Repeat(full, 10)} {
			if got := impl.StampRead(text); !onlyStampCode(got, impl.ErrSize) {
				t.Errorf("%d bytes of %q: code %d", len(text), fill, got.Code)
			}
		}
	}
}

func TestStampReadIsNewMemory(t *testing.T) {
	first := impl.StampRead("1.\n34\n").Stamp
	for i := range first.Tiles {
		first.Tiles[i] = 77
	}
	if got := impl.StampRead("1.\n34\n"); !rightStampOut(got, stampOf("1. 34")) {
		t.Errorf("read once more: %+v", got)
	}
}
