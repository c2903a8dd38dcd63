package places_test

import (
	"math"
	"slices"
	"strings"
	"testing"

	"limner/codes"
	"limner/places"
)

// What the document says of lines, columns and runes, written out once more byte by byte, to hold the package against.

// line is where a line begins, and where it ends.
type line struct{ begin, end int }

func linesOf(s string) []line {
	l := []line{{0, len(s)}}
	for i := range len(s) {
		if s[i] == 10 {
			l[len(l)-1].end = i
			l = append(l, line{i + 1, len(s)})
		}
	}
	return l
}

func nearest(n, from, to int) int {
	switch {
	case n < from:
		return from
	case n > to:
		return to
	}
	return n
}

// lineOf is how many line feeds are ahead of a place of s.
func lineOf(s string, at int) int {
	n := 0
	for i := range at {
		if s[i] == 10 {
			n++
		}
	}
	return n
}

func atOf(s string, number, col int) int {
	lines := linesOf(s)
	l := lines[nearest(number, 0, len(lines)-1)]
	return l.begin + nearest(col, 0, l.end-l.begin)
}

func runesOf(s string, at int) int {
	n := 0
	for _, start := range codes.Starts(s) {
		if start < at {
			n++
		}
	}
	return n
}

func placeOf(s string, runes int) int {
	for i, start := range codes.Starts(s) {
		if i == max(0, runes) {
			return start
		}
	}
	if runes < 1 {
		return 0
	}
	return len(s)
}

// parts are a line feed, what is none, runes of each length, and bytes that are of none, some of them a rune's when put together.
var parts = []string{"\n", "a", "\r", "\xc3\xa9", "\xe6\x97\xa5", "\xf0\x9f\x98\x80", "\xe6", "\x97", "\xff"}

// texts calls f with each text of at most most of the parts.
func texts(most int, f func(s string)) {
	level := []string{""}
	for n := 0; n <= most; n++ {
		var longer []string
		for _, s := range level {
			f(s)
			for _, p := range parts {
				longer = append(longer, s+p)
			}
		}
		level = longer
	}
}

// extremes are numbers far from all places, lines and columns of the texts here.
var extremes = []int{math.MinInt, math.MinInt + 1, math.MinInt32, -1 << 20, 1 << 20, math.MaxInt32, math.MaxInt - 1, math.MaxInt}

// some are lines and columns of a text of n bytes, and what is outside on both sides.
func some(n int) []int {
	l := slices.Clone(extremes)
	for i := -2; i <= n+2; i++ {
		l = append(l, i)
	}
	return l
}

// checkPlace holds what is told of one place, or of a number that is none, against the document.
func checkPlace(t *testing.T, s string, at int) {
	t.Helper()
	number, col, ok := places.Line(s, at)
	in := nearest(at, 0, len(s))
	want := lineOf(s, in)
	l := linesOf(s)[want]
	if in == at && (number != want || col != at-l.begin || !ok) {
		t.Errorf("Line(%q, %d): %d %d %v, not %d %d", s, at, number, col, ok, want, at-l.begin)
	}
	if in != at && (number != 0 || col != 0 || ok) {
		t.Errorf("Line(%q, %d): %d %d %v", s, at, number, col, ok)
	}
	if n := places.Start(s, at); n != l.begin {
		t.Errorf("Start(%q, %d): %d, not %d", s, at, n, l.begin)
	}
	if n := places.End(s, at); n != l.end {
		t.Errorf("End(%q, %d): %d, not %d", s, at, n, l.end)
	}
	if n := places.Runes(s, at); n != runesOf(s, at) {
		t.Errorf("Runes(%q, %d): %d, not %d", s, at, n, runesOf(s, at))
	}
}

// checkNumber holds what is told of one line, and of as many runes, against the document.
func checkNumber(t *testing.T, s string, n int, cols []int) {
	t.Helper()
	if at := places.First(s, n); at != atOf(s, n, 0) {
		t.Errorf("First(%q, %d): %d, not %d", s, n, at, atOf(s, n, 0))
	}
	for _, col := range cols {
		if at := places.At(s, n, col); at != atOf(s, n, col) {
			t.Errorf("At(%q, %d, %d): %d, not %d", s, n, col, at, atOf(s, n, col))
		}
	}
	if at := places.Place(s, n); at != placeOf(s, n) {
		t.Errorf("Place(%q, %d): %d, not %d", s, n, at, placeOf(s, n))
	}
}

// The document's text of the examples.
const example = "ab\n\xc3\xa9\n"

// The document's examples: P4.1, P4.2, P4.3
func TestExamples(t *testing.T) {
	for _, x := range []struct {
		at, line, col int
		ok            bool
	}{{4, 1, 1, true}, {6, 2, 0, true}, {7, 0, 0, false}} {
		if n, col, ok := places.Line(example, x.at); n != x.line || col != x.col || ok != x.ok {
			t.Errorf("Line(%d): %d %d %v", x.at, n, col, ok)
		}
	}
	for _, x := range []struct {
		what      string
		got, want int
	}{
		{"First of 1", places.First(example, 1), 3}, {"First of 9", places.First(example, 9), 6},
		{"At of 0, 9", places.At(example, 0, 9), 2}, {"At of 1, 1", places.At(example, 1, 1), 4},
		{"Start of 4", places.Start(example, 4), 3}, {"End of 4", places.End(example, 4), 5},
		{"Runes of 5", places.Runes(example, 5), 4},
		{"Place of 4", places.Place(example, 4), 5}, {"Place of 9", places.Place(example, 9), 6},
	} {
		if x.got != x.want {
			t.Errorf("%s: %d, not %d", x.what, x.got, x.want)
		}
	}
}

// P4.1
func TestLine(t *testing.T) {
	type told struct {
		line, col int
		ok        bool
	}
	none := told{}
	for _, x := range []struct {
		s    string
		at   int
		want told
	}{
		{"", 0, told{0, 0, true}}, {"", -1, none}, {"", 1, none},
		{"ab", 0, told{0, 0, true}}, {"ab", 2, told{0, 2, true}}, {"ab", 3, none}, {"ab", -1, none},
		// a line feed stands in the line that it ends
		{"ab\ncd", 2, told{0, 2, true}}, {"ab\ncd", 3, told{1, 0, true}}, {"ab\ncd", 5, told{1, 2, true}}, {"ab\ncd", 6, none},
		{"\n\n\n", 0, told{0, 0, true}}, {"\n\n\n", 2, told{2, 0, true}}, {"\n\n\n", 3, told{3, 0, true}}, {"\n\n\n", 4, none},
		{"a\n", 2, told{1, 0, true}}, {"a\n", 1, told{0, 1, true}},
		// columns are bytes, in a rune, too; nothing else tells lines apart
		{"\xe6\x97\xa5\n\xc3\xa9", 2, told{0, 2, true}}, {"\xe6\x97\xa5\n\xc3\xa9", 5, told{1, 1, true}},
		{"a\r\nb\rc", 6, told{1, 3, true}}, {"a\u2028\u0085\v\fb", 9, told{0, 9, true}},
	} {
		var got told
		if got.line, got.col, got.ok = places.Line(x.s, x.at); got != x.want {
			t.Errorf("Line(%q, %d): %v, not %v", x.s, x.at, got, x.want)
		}
	}
}

// P4.1
func TestStartAndEnd(t *testing.T) {
	for _, x := range []struct {
		s              string
		at, start, end int
	}{
		{"", 0, 0, 0}, {"", -1, 0, 0}, {"", 1, 0, 0},
		{"ab", 0, 0, 2}, {"ab", 1, 0, 2}, {"ab", 2, 0, 2},
		{"ab\ncd\n", 0, 0, 2}, {"ab\ncd\n", 2, 0, 2}, {"ab\ncd\n", 3, 3, 5}, {"ab\ncd\n", 5, 3, 5}, {"ab\ncd\n", 6, 6, 6},
		{"\n\n", 0, 0, 0}, {"\n\n", 1, 1, 1}, {"\n\n", 2, 2, 2},
		{"a\r\n\xe6\x97\xa5", 1, 0, 2}, {"a\r\n\xe6\x97\xa5", 4, 3, 6},
		// a place outside stands for the nearest one
		{"ab\ncd", -1, 0, 2}, {"ab\ncd", math.MinInt, 0, 2}, {"ab\ncd", 6, 3, 5}, {"ab\ncd", math.MaxInt, 3, 5}, {"ab\n", 4, 3, 3},
	} {
		if start, end := places.Start(x.s, x.at), places.End(x.s, x.at); start != x.start || end != x.end {
			t.Errorf("%q, %d: from %d to %d, not from %d to %d", x.s, x.at, start, end, x.start, x.end)
		}
	}
}

// P4.2
func TestFirst(t *testing.T) {
	for _, x := range []struct {
		s          string
		line, want int
	}{
		{"", 0, 0}, {"", 1, 0}, {"", -1, 0}, {"ab", 0, 0}, {"ab", 1, 0},
		{"ab\ncd", 0, 0}, {"ab\ncd", 1, 3}, {"ab\ncd", 2, 3}, {"ab\ncd", -1, 0}, {"ab\ncd", math.MaxInt, 3}, {"ab\ncd", math.MinInt, 0},
		{"ab\n", 1, 3}, {"ab\n", 2, 3}, {"\n\n", 1, 1}, {"\n\n", 2, 2}, {"\n\n", 3, 2},
		{"\xe6\x97\xa5\r\n\xff\na", 1, 5}, {"\xe6\x97\xa5\r\n\xff\na", 2, 7},
	} {
		if at := places.First(x.s, x.line); at != x.want {
			t.Errorf("First(%q, %d): %d, not %d", x.s, x.line, at, x.want)
		}
	}
}

// P4.2
func TestAt(t *testing.T) {
	for _, x := range []struct {
		s               string
		line, col, want int
	}{
		{"", 0, 0, 0}, {"", 5, 5, 0}, {"", -5, -5, 0},
		{"abc\nde\n", 0, 0, 0}, {"abc\nde\n", 0, 2, 2}, {"abc\nde\n", 0, 3, 3}, {"abc\nde\n", 0, 4, 3}, {"abc\nde\n", 0, -1, 0},
		{"abc\nde\n", 1, 0, 4}, {"abc\nde\n", 1, 2, 6}, {"abc\nde\n", 1, 3, 6}, {"abc\nde\n", 1, -9, 4},
		{"abc\nde\n", 2, 0, 7}, {"abc\nde\n", 2, 1, 7}, {"abc\nde", 9, 1, 5}, {"abc\nde", 9, 9, 6}, {"abc\nde", -9, 2, 2},
		// first and column together are more than an int holds
		{"abc\nde", 1, math.MaxInt, 6}, {"abc\nde", math.MaxInt, math.MaxInt - 1, 6}, {"abc\nde", 1, math.MinInt, 4},
		// a column is bytes, in a rune, too
		{"a\n\xe6\x97\xa5\nb", 1, 2, 4},
	} {
		if at := places.At(x.s, x.line, x.col); at != x.want {
			t.Errorf("At(%q, %d, %d): %d, not %d", x.s, x.line, x.col, at, x.want)
		}
	}
}

// P4.3
func TestRunes(t *testing.T) {
	for _, x := range []struct {
		s        string
		at, want int
	}{
		{"", 0, 0}, {"", 3, 0}, {"", -3, 0}, {"ab", 0, 0}, {"ab", 1, 1}, {"ab", 2, 2}, {"ab", 3, 2}, {"ab", -1, 0}, {"ab", math.MaxInt, 2}, {"ab", math.MinInt, 0},
		// in a rune it is ahead of the place, once
		{"\xe6\x97\xa5a", 0, 0}, {"\xe6\x97\xa5a", 1, 1}, {"\xe6\x97\xa5a", 2, 1}, {"\xe6\x97\xa5a", 3, 1}, {"\xe6\x97\xa5a", 4, 2},
		{"\xf0\x9f\x98\x80", 3, 1}, {"\xf0\x9f\x98", 3, 3}, {"\xe6\x97", 1, 1}, {"\xe6\x97", 2, 2}, {"\xff\n\xc3\xa9", 3, 3},
	} {
		if n := places.Runes(x.s, x.at); n != x.want {
			t.Errorf("Runes(%q, %d): %d, not %d", x.s, x.at, n, x.want)
		}
	}
}

// P4.3
func TestPlace(t *testing.T) {
	for _, x := range []struct {
		s           string
		runes, want int
	}{
		{"", 0, 0}, {"", 1, 0}, {"", -1, 0}, {"ab", 0, 0}, {"ab", 1, 1}, {"ab", 2, 2}, {"ab", 3, 2}, {"ab", -1, 0}, {"ab", math.MinInt, 0}, {"ab", math.MaxInt, 2},
		{"\xe6\x97\xa5a\n", 1, 3}, {"\xe6\x97\xa5a\n", 2, 4}, {"\xe6\x97\xa5a\n", 3, 5}, {"\xe6\x97\xa5a\n", 4, 5},
		{"\xe6\x97", 1, 1}, {"\xe6\x97", 2, 2}, {"\xff\xc3\xa9\xf0\x9f\x98\x80!", 3, 7}, {"\xff\xc3\xa9\xf0\x9f\x98\x80!", 4, 8},
	} {
		if at := places.Place(x.s, x.runes); at != x.want {
			t.Errorf("Place(%q, %d): %d, not %d", x.s, x.runes, at, x.want)
		}
	}
}

// P4.1, P4.2, P4.3, R1
func TestTexts(t *testing.T) {
	texts(3, func(s string) {
		l := some(len(s))
		for _, n := range l {
			checkNumber(t, s, n, l)
		}
	})
	texts(4, func(s string) {
		for _, n := range some(len(s)) {
			checkPlace(t, s, n)
			checkNumber(t, s, n, []int{2})
		}
	})
}

// P4.4: of a place's line and column At is that place.
func TestPlacesLeadBack(t *testing.T) {
	texts(5, func(s string) {
		for at := range len(s) + 1 {
			number, col, ok := places.Line(s, at)
			if back := places.At(s, number, col); back != at || !ok {
				t.Errorf("%q: %d is in line %d, column %d, and that is %d", s, at, number, col, back)
			}
			if first := places.First(s, number); first != places.Start(s, at) || first+col != at {
				t.Errorf("%q: %d is %d behind %d, and its line begins at %d", s, at, col, first, places.Start(s, at))
			}
		}
	})
}

// P4.4: places of Starts and their numbers lead back to each other.
func TestRunesLeadBack(t *testing.T) {
	texts(5, func(s string) {
		starts := append(codes.Starts(s), len(s))
		for i, at := range starts {
			if n := places.Runes(s, at); n != i {
				t.Errorf("%q: %d runes ahead of %d, not %d", s, n, at, i)
			}
			if back := places.Place(s, i); back != at {
				t.Errorf("%q: behind %d runes is %d, not %d", s, i, back, at)
			}
		}
	})
}

// P4.4: lines begin one behind the other, and end where the next one's line feed is.
func TestLinesStandInOrder(t *testing.T) {
	texts(5, func(s string) {
		count := strings.Count(s, "\n")
		for n := range count {
			end, next := places.End(s, places.First(s, n)), places.First(s, n+1)
			if next != end+1 || s[end] != 10 || next <= places.First(s, n) {
				t.Errorf("%q: line %d ends at %d, the next one begins at %d", s, n, end, next)
			}
		}
		last := places.First(s, count)
		if places.End(s, last) != len(s) || places.First(s, count+1) != last || places.First(s, 0) != 0 {
			t.Errorf("%q: the last line is from %d to %d", s, last, places.End(s, last))
		}
	})
}

// R1
func TestLongTexts(t *testing.T) {
	const many = 1 << 13
	for _, part := range []string{"\n", "a", "ab\n", "\x80", "\xf0\x9f\x98", "\xe6\x97\xa5\n\n", "\r\n"} {
		s := strings.Repeat(part, many)
		for _, at := range append([]int{-1, 0, 1, len(s) / 2, len(s) - 1, len(s), len(s) + 1}, extremes...) {
			checkPlace(t, s, at)
			checkNumber(t, s, at, []int{-1, 0, 1, 2, len(s), math.MaxInt})
		}
	}
}

// R2: what was asked ahead makes no difference.
func TestSameAgain(t *testing.T) {
	ask := func() [8]int {
		number, col, _ := places.Line(example, 4)
		return [8]int{
			number, col, places.First(example, 1), places.At(example, 1, 1),
			places.Start(example, 4), places.End(example, 4), places.Runes(example, 5), places.Place(example, 4),
		}
	}
	first := ask()
	for _, n := range some(len(example)) {
		checkPlace(t, example+"other\n", n)
		checkNumber(t, "\n"+example, n, []int{n})
		if again := ask(); again != first {
			t.Errorf("behind %d: %v, not %v", n, again, first)
		}
	}
}
