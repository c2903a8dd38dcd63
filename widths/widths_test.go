package widths_test

import (
	"math"
	"strings"
	"testing"

	"limner/api"
	"limner/codes"
	"limner/widths"
)

// What the document says of single runes, written out once more as one condition each, to hold the package against.

func isHidden(r rune) bool {
	return r < 0x20 || 0x7f <= r && r <= 0x9f || 0x300 <= r && r <= 0x36f || 0x200b <= r && r <= 0x200f ||
		0x2028 <= r && r <= 0x202e || 0xfe00 <= r && r <= 0xfe0f || r == 0xfeff ||
		0xd800 <= r && r <= 0xdfff || r > 0x10ffff
}

func isWide(r rune) bool {
	return 0x1100 <= r && r <= 0x115f || 0x2e80 <= r && r <= 0x303e || 0x3041 <= r && r <= 0x33ff ||
		0x3400 <= r && r <= 0x4dbf || 0x4e00 <= r && r <= 0x9fff || 0xa000 <= r && r <= 0xa4cf ||
		0xac00 <= r && r <= 0xd7a3 || 0xf900 <= r && r <= 0xfaff || 0xfe30 <= r && r <= 0xfe6f ||
		0xff01 <= r && r <= 0xff60 || 0xffe0 <= r && r <= 0xffe6 || 0x1f300 <= r && r <= 0x1f64f ||
		0x1f900 <= r && r <= 0x1f9ff || 0x20000 <= r && r <= 0x3fffd
}

func cellsOf(r rune) int {
	switch {
	case isHidden(r):
		return 0
	case isWide(r):
		return 2
	}
	return 1
}

// textOf takes a text apart by codes, where widths ranges over it.
func textOf(s string) int {
	cells := 0
	for _, at := range codes.Starts(s) {
		r, _, ok := codes.Next(s, at)
		if !ok || isHidden(r) {
			r = 0xfffd
		}
		cells += cellsOf(r)
	}
	return cells
}

// extremes are numbers far from all runes.
var extremes = []rune{math.MinInt32, math.MinInt32 + 1, -0x10ffff, -0x65e5, 0x200000, 0x7fff65e5, math.MaxInt32 - 1, math.MaxInt32}

// parts are runes of each length and width, at the edges of the runs too, and bytes that are of none, some of them a rune's when put together.
var parts = []string{
	"a", " ", "\x00", "\t", "\x7f", "\u00a0", "\u00e9", "\u0301", "\u200b", "\u65e5", "\ufffd", "\ufeff", "\uff61", "\U0001f600", "\U0003fffe",
	"\x80", "\xa5", "\xe6", "\xe6\x97", "\xed\xa0\x80", "\xf0\x9f", "\x98\x80", "\xff",
}

// sequences calls f with each text of at most most of the parts.
func sequences(most int, f func(s string)) {
	level := []string{""}
	for n := 0; n <= most; n++ {
		var longer []string
		for _, s := range level {
			f(s)
			for _, p := range parts {
				longer = append(longer, s+p)
			}
		}
		level = longer
	}
}

// P2.1
func TestOfEdges(t *testing.T) {
	for _, x := range []struct {
		first, last rune
		cells       int
	}{
		{math.MinInt32, -1, 0}, {0, 0x1f, 0}, {0x20, 0x7e, 1}, {0x7f, 0x9f, 0}, {0xa0, 0x2ff, 1}, {0x300, 0x36f, 0}, {0x370, 0x10ff, 1},
		{0x1100, 0x115f, 2}, {0x1160, 0x200a, 1}, {0x200b, 0x200f, 0}, {0x2010, 0x2027, 1}, {0x2028, 0x202e, 0}, {0x202f, 0x2e7f, 1},
		{0x2e80, 0x303e, 2}, {0x303f, 0x3040, 1}, {0x3041, 0x33ff, 2}, {0x3400, 0x4dbf, 2}, {0x4dc0, 0x4dff, 1}, {0x4e00, 0x9fff, 2},
		{0xa000, 0xa4cf, 2}, {0xa4d0, 0xabff, 1}, {0xac00, 0xd7a3, 2}, {0xd7a4, 0xd7ff, 1}, {0xd800, 0xdfff, 0}, {0xe000, 0xf8ff, 1},
		{0xf900, 0xfaff, 2}, {0xfb00, 0xfdff, 1}, {0xfe00, 0xfe0f, 0}, {0xfe10, 0xfe2f, 1}, {0xfe30, 0xfe6f, 2}, {0xfe70, 0xfefe, 1},
		{0xfeff, 0xfeff, 0}, {0xff00, 0xff00, 1}, {0xff01, 0xff60, 2}, {0xff61, 0xffdf, 1}, {0xffe0, 0xffe6, 2}, {0xffe7, 0x1f2ff, 1},
		{0x1f300, 0x1f64f, 2}, {0x1f650, 0x1f8ff, 1}, {0x1f900, 0x1f9ff, 2}, {0x1fa00, 0x1ffff, 1}, {0x20000, 0x3fffd, 2},
		{0x3fffe, 0x10ffff, 1}, {0x110000, math.MaxInt32, 0},
	} {
		for _, r := range []rune{x.first, x.first + (x.last-x.first)/2, x.last} {
			if n := widths.Of(r); n != x.cells {
				t.Errorf("Of(%x): %d, not %d", r, n, x.cells)
			}
			want := r
			if x.cells == 0 {
				want = 0xfffd
			}
			if q := widths.Shown(r); q != want {
				t.Errorf("Shown(%x): %x, not %x", r, q, want)
			}
		}
	}
}

// checkRune holds Of and Shown of one number against the document, and what follows of them (P2.3).
func checkRune(t *testing.T, r rune) {
	t.Helper()
	n, q := widths.Of(r), widths.Shown(r)
	if n != cellsOf(r) {
		t.Fatalf("Of(%x): %d, not %d", r, n, cellsOf(r))
	}
	if isHidden(r) && q != 0xfffd || !isHidden(r) && q != r {
		t.Fatalf("Shown(%x): %x", r, q)
	}
	if widths.Shown(q) != q || widths.Of(q) == 0 {
		t.Fatalf("%x is shown as %x, and that as %x, in %d cells", r, q, widths.Shown(q), widths.Of(q))
	}
	if put := codes.Put(r); put != "" && widths.Text(put) != max(n, 1) {
		t.Fatalf("Text of %x: %d", r, widths.Text(put))
	}
}

// P2.1, P2.3, R1
func TestAllRunes(t *testing.T) {
	for r := rune(-0x1000); r <= 0x111000; r++ {
		checkRune(t, r)
	}
	for _, r := range extremes {
		checkRune(t, r)
	}
}

// P2.2
func TestTab(t *testing.T) {
	for _, x := range []struct{ col, want int }{
		{0, 8}, {1, 7}, {6, 2}, {7, 1}, {8, 8}, {9, 7}, {15, 1}, {16, 8}, {199, 1}, {200, 8},
		{-1, 8}, {-7, 8}, {-8, 8}, {-9, 8}, {math.MinInt32, 8}, {math.MinInt, 8}, {math.MinInt + 1, 8},
		{math.MaxInt32, 1}, {math.MaxInt, 1}, {math.MaxInt - 6, 7}, {math.MaxInt - 7, 8},
	} {
		if n := widths.Tab(x.col); n != x.want {
			t.Errorf("Tab(%d): %d, not %d", x.col, n, x.want)
		}
	}
	for col := range 1000 {
		n := widths.Tab(col)
		if n < 1 || n > api.TabStop || (col+n)%api.TabStop != 0 {
			t.Errorf("Tab(%d): %d", col, n)
		}
	}
}

// P2.2
func TestText(t *testing.T) {
	for _, x := range []struct {
		s    string
		want int
	}{
		{"", 0}, {"a", 1}, {"a b", 3}, {"a\u65e5\u0301\xff", 5},
		// what is not shown is FFFD, a cell each; a tab is so, too
		{"\t", 1}, {"\n", 1}, {"\x00\x1f\x7f", 3}, {"e\u0301", 2}, {"\u200b\ufeff", 2}, {"\ufffd", 1},
		{"\u65e5\u672c", 4}, {"\U0001f600!", 3}, {"\U00020000\U0003fffd\U0003fffe", 5},
		// each byte that is of none is a cell
		{"\xff\xfe", 2}, {"\xe6\x97", 2}, {"\xe6\x97\xa5", 2}, {"\x97\xa5", 2}, {"\xf0\x9f\x98", 3}, {"\xed\xa0\x80", 3}, {"\xc0\x80", 2}, {"\xf4\x90\x80\x80", 4},
	} {
		if n := widths.Text(x.s); n != x.want {
			t.Errorf("Text(%q): %d, not %d", x.s, n, x.want)
		}
	}
}

// P2.2, P2.3
func TestTexts(t *testing.T) {
	sequences(4, func(s string) {
		n, runes := widths.Text(s), codes.Count(s)
		if n != textOf(s) {
			t.Errorf("Text(%q): %d, not %d", s, n, textOf(s))
		}
		if n < runes || n > 2*runes {
			t.Errorf("Text(%q): %d cells of %d runes", s, n, runes)
		}
	})
}

// P2.3
func TestTwoTexts(t *testing.T) {
	valid := 0
	sequences(2, func(first string) {
		if !codes.Valid(first) {
			return
		}
		valid++
		sequences(2, func(second string) {
			if n := widths.Text(first + second); n != widths.Text(first)+widths.Text(second) {
				t.Errorf("Text(%q): %d, one by one %d and %d", first+second, n, widths.Text(first), widths.Text(second))
			}
		})
	})
	if valid == 0 {
		t.Error("no text was valid")
	}
}

// R1
func TestLongTexts(t *testing.T) {
	const many = 1 << 16
	for _, x := range []struct {
		part  string
		cells int
	}{
		{"a", 1}, {"\t", 1}, {"\u65e5", 2}, {"\u0301", 1}, {"\x80", 1}, {"\xf0\x9f\x98", 3}, {"\U0001f600\xff", 3},
	} {
		if n := widths.Text(strings.Repeat(x.part, many)); n != x.cells*many {
			t.Errorf("Text of %d times %q: %d", many, x.part, n)
		}
	}
}

// R2: what was asked ahead makes no difference.
func TestSameAgain(t *testing.T) {
	ask := func() [5]int {
		return [5]int{widths.Of(0x65e5), int(widths.Shown('\t')), widths.Tab(3), widths.Text("a\u65e5\u0301\xff"), widths.Of('a')}
	}
	first := ask()
	for _, r := range extremes {
		widths.Of(r)
		widths.Shown(r)
		widths.Tab(int(r))
		widths.Text(string(r))
		if again := ask(); again != first {
			t.Errorf("behind %x: %v, not %v", r, again, first)
		}
	}
}
