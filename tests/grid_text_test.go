package tests

import (
	"slices"
	"strings"
	"testing"

	"loop.example/g00635/impl"
)

func TestGridTextByHand(t *testing.T) {
	for _, c := range []struct {
		g    impl.Grid
		want string
	}{
		{impl.Grid{Side: 1, Tiles: []int64{0}}, "0\n"},
		{impl.Grid{Side: 1, Tiles: []int64{9}}, "9\n"},
		{impl.Grid{Side: 2, Tiles: []int64{1, 2, 3, 4}}, "12\n34\n"},
		{impl.Grid{Side: 4, Tiles: []int64{0, 1, 2, 3, 4, 5, 6, 7, 8, 9, 0, 1, 2, 3, 4, 5}}, "0123\n4567\n8901\n2345\n"},
		{impl.GridNew(8, 7).Grid, strings.Repeat("77777777\n", 8)},
	} {
		if got := impl.GridText(c.g); got != c.want {
			t.Errorf("GridText of %v = %q, want %q", c.g, got, c.want)
		}
		got := impl.GridRead(c.want)
		if got.Code != impl.OK || !likeGrid(got.Grid, c.g) {
			t.Errorf("GridRead of %q = %+v", c.want, got)
		}
	}
}

func TestGridTextWrongGrids(t *testing.T) {
	for name, g := range wrongGrids() {
		if got := impl.GridText(g); got != "" {
			t.Errorf("%s: got %q", name, got)
		}
	}
}

// The text is to depend on the tiles alone, not on what stands behind them in memory.
func TestGridTextOfPartOfList(t *testing.T) {
	wide := []int64{8, 8, 1, 2, 3, 4, 8, 8}
	before := slices.Clone(wide)
	if got := impl.GridText(impl.Grid{Side: 2, Tiles: wide[2:6]}); got != "12\n34\n" {
		t.Errorf("got %q", got)
	}
	if !slices.Equal(wide, before) {
		t.Errorf("the list is %v now", wide)
	}
}

func TestGridsComeBackFromText(t *testing.T) {
	for _, side := range rightSides() {
		for seed := range int64(10) {
			g := mixed(side, seed)
			checkComesBack(t, g)
			checkComesBack(t, impl.GridNew(side, seed).Grid)
			checkComesBack(t, impl.Fill(g, side/2, 0, side-side/2, side, seed).Grid)
		}
	}
}

func checkComesBack(t *testing.T, g impl.Grid) {
	t.Helper()
	before := copyGrid(g)
	text := impl.GridText(g)
	if len(text) != int(g.Side*(g.Side+1)) {
		t.Fatalf("side %d: %d bytes", g.Side, len(text))
	}
	got := impl.GridRead(text)
	if got.Code != impl.OK || !likeGrid(got.Grid, before) {
		t.Fatalf("of %q came %+v", text, got)
	}
	if !likeGrid(g, before) {
		t.Fatalf("of %q: what was handed in is turned", text)
	}
}

func TestEachTextOfSideOneAndTwo(t *testing.T) {
	for n := range int64(10000) {
		tiles := []int64{n / 1000, n / 100 % 10, n / 10 % 10, n % 10}
		checkComesBack(t, impl.Grid{Side: 2, Tiles: tiles})
		checkComesBack(t, impl.Grid{Side: 1, Tiles: tiles[:1]})
	}
}

func TestGridReadSyntax(t *testing.T) {
	for _, text := range []string{
		"", "\n", "\n\n", "0", "00", "0000", "0\n0\n",
		"12\n3\n", "1\n234\n", "123\n4\n", "12\n34", "12\n345\n", "1234\n\n", "\n1234\n", "12\n\n34\n",
		"12\n", "12\n34\n56\n", "12\n34\n\n", "\n12\n34\n", "12\n34\n5", "12\n34\n\x00",
		"12\r\n34\r\n", "12\r34\r", "12 34\n", " 12\n34\n", "12\n34\n ", "1\t2\n34\n",
		"1a\n34\n", "1:\n34\n", "1/\n34\n", "-1\n34\n", "+1\n34\n", "1.\n34\n", "\x002\n34\n",
		"123\n456\n789\n", "12345\n12345\n12345\n12345\n12345\n",
		strings.Repeat("123456\n", 6), strings.Repeat("1234567\n", 7), strings.Repeat("123456789\n", 9),
		strings.Repeat(strings.Repeat("1", 16)+"\n", 16),
		strings.Repeat("12345678\n", 7), strings.Repeat("12345678\n", 9),
		strings.Repeat("1234\n", 3), strings.Repeat("1234\n", 5),
		"12345\n123\n1234\n1234\n", "1234\n1234\n1234\n12345\n",
	} {
		if got := impl.GridRead(text); !onlyCode(got, impl.ErrSyntax) {
			t.Errorf("%q: got %+v", text, got)
		}
	}
}

func TestGridReadOtherRunes(t *testing.T) {
	for _, text := range []string{
		"\xff\n", "\x80\n", "\xc2\n", "\xc0\xb1\n", "\xe0\x80\xb1\n", "1\xff\n34\n", "12\n3\xc3\n", "12\n34\n\xff", "\xff12\n34\n",
		"\xed\xa0\x80\n", "\ufffd\n",
		"\u0661\n", "\u0967\n", "\uff11\n", "\U0001d7cf\n", "1\u0662\n34\n", "\uff11\uff12\n\uff13\uff14\n", "\u00b9\n", "\u2460\n",
		"\u0130\n", "\u0131\n", "\U00010030\n",
		"1\u20282\n", "1\u0085", "1\u010a", "\ufeff1\n",
	} {
		if got := impl.GridRead(text); !onlyCode(got, impl.ErrSyntax) {
			t.Errorf("%q: got %+v", text, got)
		}
	}
}

// With any one byte other than it is, a Grid's text is another Grid's, or none.
func TestGridReadEachByteTurned(t *testing.T) {
	text := impl.GridText(mixed(4, 0))
	for at := range len(text) {
		for b := range 256 {
			other := []byte(text)
			other[at] = byte(b)
			got := impl.GridRead(string(other))
			if (text[at] == '\n') == (b == '\n') && (b == '\n' || b >= '0' && b <= '9') {
				if got.Code != impl.OK || impl.GridText(got.Grid) != string(other) {
					t.Fatalf("%q: got %+v", other, got)
				}
			} else if !onlyCode(got, impl.ErrSyntax) {
				t.Fatalf("%q: got %+v", other, got)
			}
		}
	}
}

func TestGridReadCutAndLonger(t *testing.T) {
	for _, side := range rightSides() {
		text := impl.GridText(mixed(side, 5))
		for cut := range len(text) {
			if got := impl.GridRead(text[:cut]); !onlyCode(got, impl.ErrSyntax) {
				t.Errorf("first %d bytes of %q: got %+v", cut, text, got)
			}
			if got := impl.GridRead(text[:cut] + text[cut+1:]); !onlyCode(got, impl.ErrSyntax) {
				t.Errorf("%q without byte %d: got %+v", text, cut, got)
			}
		}
		for at := range len(text) + 1 {
			for _, more := range []string{"0", "9", "\n", "\x00", "é"} {
				if got := impl.GridRead(text[:at] + more + text[at:]); !onlyCode(got, impl.ErrSyntax) {
					t.Errorf("%q with %q at %d: got %+v", text, more, at, got)
				}
			}
		}
	}
}

func TestGridReadSize(t *testing.T) {
	right := impl.GridText(mixed(8, 0))
	for _, fill := range []string{"0", "\n", "x", "\xff", "01234567\n"} {
		full := strings.Repeat(fill, impl.MaxBytes)[:impl.MaxBytes]
		if got := impl.GridRead(full); !onlyCode(got, impl.ErrSyntax) {
			t.Errorf("MaxBytes bytes of %q: code %d", fill, got.Code)
		}
		if got := impl.GridRead(full + "0"); !onlyCode(got, impl.ErrSize) {
			t.Errorf("one byte more of %q: code %d", fill, got.Code)
		}
		if got := impl.GridRead(right + full); !onlyCode(got, impl.ErrSize) {
			t.Errorf("a right text and MaxBytes bytes of %q: code %d", fill, got.Code)
		}
	}
}

func TestGridReadIsNewMemory(t *testing.T) {
	a := impl.GridRead("12\n34\n").Grid
	a.Tiles[0] = 9
	if got := impl.GridText(impl.GridRead("12\n34\n").Grid); got != "12\n34\n" {
		t.Errorf("read once more: %q", got)
	}
}
