package pieces_test

import (
	"math"
	"strings"
	"testing"

	"limner/api"
	"limner/pieces"
)

// extremes are places that no text has.
var extremes = []int{math.MinInt, math.MinInt + 1, math.MinInt32, -api.MaxText, -1, api.MaxText + 1, math.MaxInt32, math.MaxInt - 1, math.MaxInt}

// made is a text of New.
func made(t *testing.T, s string) *pieces.Text {
	t.Helper()
	x, e := pieces.New(s)
	if e != api.OK || x == nil {
		t.Fatalf("New of %d bytes: %v", len(s), e)
	}
	return x
}

// with is the text with s put in.
func with(t *testing.T, x *pieces.Text, at int, s string) *pieces.Text {
	t.Helper()
	y, e := x.Insert(at, s)
	if e != api.OK || y == nil {
		t.Fatalf("Insert(%d) of %d bytes into %d: %v", at, len(s), x.Len(), e)
	}
	return y
}

// without is the text with a part taken out.
func without(t *testing.T, x *pieces.Text, from, to int) *pieces.Text {
	t.Helper()
	y, e := x.Delete(from, to)
	if e != api.OK || y == nil {
		t.Fatalf("Delete(%d, %d) of %d: %v", from, to, x.Len(), e)
	}
	return y
}

// held tells whether a text is what the document says of these bytes (P3.1), with pieces of which none is empty (P3.3).
func held(t *testing.T, x *pieces.Text, want string) {
	t.Helper()
	if x.Len() != len(want) || x.String() != want {
		t.Errorf("%d bytes %.60q, not %d %.60q", x.Len(), x.String(), len(want), want)
	}
	lines := 1
	for i := range len(want) {
		if want[i] == 10 {
			lines++
		}
	}
	if x.Lines() != lines {
		t.Errorf("%.60q: %d lines, not %d", want, x.Lines(), lines)
	}
	if x.Pieces() > len(want) || x.Pieces() < min(len(want), 1) {
		t.Errorf("%.60q: %d pieces", want, x.Pieces())
	}
}

// slices holds each Slice of a text against its bytes, at places outside, too.
func slices(t *testing.T, x *pieces.Text, want string) {
	t.Helper()
	for from := -2; from <= len(want)+2; from++ {
		for to := -2; to <= len(want)+2; to++ {
			part := ""
			if 0 <= from && from <= to && to <= len(want) {
				part = want[from:to]
			}
			if s := x.Slice(from, to); s != part {
				t.Errorf("%q: Slice(%d, %d): %q, not %q", want, from, to, s, part)
			}
		}
	}
}

// step is an Insert of s at from, or, if s is "-", a Delete.
type step struct {
	from, to int
	s        string
}

// steps are those that a text of n bytes can be told.
func steps(n int) []step {
	var l []step
	for at := range n + 1 {
		for _, s := range []string{"", "x", "\n\xff\x00"} {
			l = append(l, step{at, at, s})
		}
		for to := at; to <= n; to++ {
			l = append(l, step{at, to, "-"})
		}
	}
	return l
}

// told is what a step makes of a text and of its bytes; most: how many pieces it may add.
func told(t *testing.T, x *pieces.Text, bytes string, p step) (y *pieces.Text, after string, most int) {
	t.Helper()
	if p.s == "-" {
		return without(t, x, p.from, p.to), bytes[:p.from] + bytes[p.to:], 1
	}
	return with(t, x, p.from, p.s), bytes[:p.from] + p.s + bytes[p.from:], 2
}

// The document's examples: P3.1, P3.2, P3.3
func TestExamples(t *testing.T) {
	x := made(t, "abcd")
	y := with(t, x, 2, "xy")
	if y.String() != "abxycd" || y.Pieces() != 3 {
		t.Errorf("%q, %d pieces", y.String(), y.Pieces())
	}
	z := without(t, y, 1, 5)
	if z.String() != "ad" || z.Pieces() != 2 {
		t.Errorf("%q, %d pieces", z.String(), z.Pieces())
	}
	if s := x.Slice(1, 3); s != "bc" {
		t.Errorf("Slice(1, 3): %q", s)
	}
	if s := x.Slice(3, 1); s != "" {
		t.Errorf("Slice(3, 1): %q", s)
	}
	if u, e := x.Insert(5, "x"); u != nil || e != api.ErrArg {
		t.Errorf("Insert(5): %v, %v", u, e)
	}
}

// P3.1, P3.3
func TestNew(t *testing.T) {
	for _, s := range []string{
		"", "a", "abcd", "\n", "\n\n", "a\nb", "\r\n", "\u2028\v\f\x85", "\u65e5\n\u672c", "\xff\xfe\x00", "\xe6\x97",
		strings.Repeat("a", api.MaxText-1), strings.Repeat("\n", api.MaxText), strings.Repeat("\xff", api.MaxText),
	} {
		x := made(t, s)
		held(t, x, s)
		if x.Pieces() != min(len(s), 1) {
			t.Errorf("%.60q: %d pieces", s, x.Pieces())
		}
		if len(s) < 10 {
			slices(t, x, s)
		}
	}
	for _, n := range []int{api.MaxText + 1, 2 * api.MaxText, 1 << 20} {
		if x, e := pieces.New(strings.Repeat("a", n)); x != nil || e != api.ErrFull {
			t.Errorf("New of %d bytes: %v, %v", n, x != nil, e)
		}
	}
}

// walk tells a text each step that it can be told, and what comes of it each step again, as often as left says.
func walk(t *testing.T, x *pieces.Text, bytes string, left int) {
	if left == 0 {
		return
	}
	before := x.Pieces()
	for _, p := range steps(len(bytes)) {
		y, after, most := told(t, x, bytes, p)
		held(t, y, after)
		if y == x || y.Pieces() > before+most {
			t.Errorf("%q, %v: the same text is %v, %d pieces behind %d", bytes, p, y == x, y.Pieces(), before)
		}
		walk(t, y, after, left-1)
		if t.Failed() {
			return
		}
	}
	// The text itself stays as it was, whatever came of it.
	held(t, x, bytes)
	slices(t, x, bytes)
	if x.Pieces() != before {
		t.Errorf("%q: %d pieces, and %d at first", bytes, x.Pieces(), before)
	}
}

// P3.1, P3.2, P3.3
func TestAllSteps(t *testing.T) {
	walk(t, made(t, ""), "", 4)
	walk(t, made(t, "ab\nd"), "ab\nd", 3)
}

// P3.2: texts that came of one text by steps at the same place don't write into each other.
func TestBranches(t *testing.T) {
	var texts []*pieces.Text
	var bytes []string
	keep := func(x *pieces.Text, s string) {
		texts, bytes = append(texts, x), append(bytes, s)
	}
	keep(made(t, "abcd"), "abcd")
	for i := 0; i < 200; i++ {
		l := steps(len(bytes[i]))
		for k := range 3 {
			y, s, _ := told(t, texts[i], bytes[i], l[(7*i+5*k)%len(l)])
			keep(y, s)
			y, s, _ = told(t, texts[i], bytes[i], step{len(bytes[i]), len(bytes[i]), string(rune('p' + k))})
			keep(y, s)
		}
	}
	for i, x := range texts {
		held(t, x, bytes[i])
		slices(t, x, bytes[i])
	}
}

// P3.2
func TestInsertRoom(t *testing.T) {
	full := strings.Repeat("a", api.MaxText)
	for _, had := range []int{0, 1, 100, api.MaxText - 1, api.MaxText} {
		x := made(t, full[:had])
		for _, at := range []int{0, had / 2, had} {
			room := api.MaxText - had
			held(t, with(t, x, at, strings.Repeat("b", room)), full[:at]+strings.Repeat("b", room)+full[at:had])
			for _, more := range []int{room + 1, room + 1000, 1 << 20} {
				if y, e := x.Insert(at, strings.Repeat("b", more)); y != nil || e != api.ErrFull {
					t.Errorf("%d bytes behind %d: %v, %v", more, had, y != nil, e)
				}
			}
		}
		held(t, x, full[:had])
	}
	// What is taken out is room again.
	x := without(t, made(t, full), 10, 20)
	held(t, with(t, x, 5, "0123456789"), full[:5]+"0123456789"+full[:api.MaxText-15])
	if y, e := x.Insert(5, "0123456789a"); y != nil || e != api.ErrFull {
		t.Errorf("one byte too many: %v, %v", y != nil, e)
	}
}

// P3.2, R1, R5
func TestWrongPlaces(t *testing.T) {
	long := strings.Repeat("a", api.MaxText+1)
	empty, whole := made(t, ""), made(t, "abcd")
	cut := without(t, with(t, whole, 2, "xy"), 1, 3)
	for _, x := range []*pieces.Text{empty, whole, cut} {
		n := x.Len()
		bytes := x.String()
		outside := append([]int{n + 1, -n - 1}, extremes...)
		for _, at := range outside {
			for _, s := range []string{"", "x", long} {
				if y, e := x.Insert(at, s); y != nil || e != api.ErrArg {
					t.Errorf("%q: Insert(%d) of %d bytes: %v, %v", bytes, at, len(s), y != nil, e)
				}
			}
			for _, to := range append([]int{0, n}, outside...) {
				wrong(t, x, at, to)
				wrong(t, x, to, at)
			}
		}
		for from := 1; from <= n; from++ {
			wrong(t, x, from, from-1)
		}
		held(t, x, bytes)
	}
}

// wrong asks for a part that a text does not have.
func wrong(t *testing.T, x *pieces.Text, from, to int) {
	t.Helper()
	if y, e := x.Delete(from, to); y != nil || e != api.ErrArg {
		t.Errorf("%q: Delete(%d, %d): %v, %v", x.String(), from, to, y != nil, e)
	}
	if s := x.Slice(from, to); s != "" {
		t.Errorf("%q: Slice(%d, %d): %q", x.String(), from, to, s)
	}
}

// P3.3
func TestPieces(t *testing.T) {
	for _, x := range []struct {
		what string
		text *pieces.Text
		most int
	}{
		{"put in the middle", with(t, made(t, "abcd"), 2, "x"), 3},
		{"put at the front", with(t, made(t, "abcd"), 0, "x"), 2},
		{"put at the end", with(t, made(t, "abcd"), 4, "x"), 2},
		{"put into nothing", with(t, made(t, ""), 0, "x"), 1},
		{"taken from the middle", without(t, made(t, "abcd"), 1, 3), 2},
		{"taken from the front", without(t, made(t, "abcd"), 0, 3), 1},
		{"taken from the end", without(t, made(t, "abcd"), 1, 4), 1},
		{"taken whole", without(t, made(t, "abcd"), 0, 4), 0},
		{"one of three taken", without(t, with(t, made(t, "abcd"), 2, "xy"), 2, 4), 2},
		{"two of three cut", without(t, with(t, made(t, "abcd"), 2, "xy"), 1, 5), 2},
		{"three taken", without(t, with(t, made(t, "abcd"), 2, "xy"), 0, 6), 0},
	} {
		if n := x.text.Pieces(); n > x.most || n < min(x.text.Len(), 1) {
			t.Errorf("%s: %d pieces of %q, and not at most %d", x.what, n, x.text.String(), x.most)
		}
	}
}

// P3.3: many pieces, and nothing left of them.
func TestManyPieces(t *testing.T) {
	x, want := made(t, ""), ""
	for i := range 2000 {
		s := string(rune('a' + i%26))
		at := i * 7 % (len(want) + 1)
		before := x.Pieces()
		x, want = with(t, x, at, s), want[:at]+s+want[at:]
		if x.Pieces() > before+2 {
			t.Fatalf("%d pieces behind %d", x.Pieces(), before)
		}
	}
	held(t, x, want)
	for n := len(want); n > 0; n = len(want) {
		from := n * 3 % 11 % n
		to := min(n, from+13)
		before := x.Pieces()
		x, want = without(t, x, from, to), want[:from]+want[to:]
		if x.Pieces() > before+1 {
			t.Fatalf("%d pieces behind %d", x.Pieces(), before)
		}
		held(t, x, want)
	}
}

// P3.4, R1, R3
func TestNone(t *testing.T) {
	long := strings.Repeat("a", api.MaxText+1)
	for _, x := range []*pieces.Text{nil, {}, new(pieces.Text)} {
		if x.Len() != 0 || x.String() != "" || x.Pieces() != 0 || x.Lines() != 0 {
			t.Errorf("%d bytes %q, %d pieces, %d lines", x.Len(), x.String(), x.Pieces(), x.Lines())
		}
		for _, at := range append([]int{0, 1}, extremes...) {
			for _, s := range []string{"", "x", long} {
				if y, e := x.Insert(at, s); y != nil || e != api.ErrNil {
					t.Errorf("Insert(%d): %v, %v", at, y != nil, e)
				}
			}
			for _, to := range append([]int{0, 1}, extremes...) {
				if y, e := x.Delete(at, to); y != nil || e != api.ErrNil {
					t.Errorf("Delete(%d, %d): %v, %v", at, to, y != nil, e)
				}
				if s := x.Slice(at, to); s != "" {
					t.Errorf("Slice(%d, %d): %q", at, to, s)
				}
			}
		}
	}
	// An empty text is not none: it has a line.
	for _, x := range []*pieces.Text{made(t, ""), with(t, made(t, ""), 0, ""), without(t, made(t, "a"), 0, 1), without(t, made(t, ""), 0, 0)} {
		held(t, x, "")
		held(t, with(t, x, 0, "a\n"), "a\n")
	}
}

// P3.5: what was put in and is deleted again leaves what was there.
func TestPutInAndTakenOut(t *testing.T) {
	cut := without(t, with(t, with(t, made(t, "abcdef"), 3, "x\ny"), 1, "\xff"), 4, 6)
	for _, x := range []*pieces.Text{made(t, ""), made(t, "ab\ncd"), cut} {
		want := x.String()
		for at := range len(want) + 1 {
			for _, s := range []string{"", "z", "\n\n", "\xe6\x97\xa5", strings.Repeat("q", api.MaxText-len(want))} {
				held(t, without(t, with(t, x, at, s), at, at+len(s)), want)
			}
		}
	}
}

// P3.5: slices side by side are String.
func TestSideBySide(t *testing.T) {
	x := made(t, "ab\n\xe6\x97\xa5\xffz")
	for i, s := range []string{"p", "\n", "qr\x00"} {
		x = with(t, x, 2*i+1, s)
	}
	x = without(t, x, 4, 6)
	n := x.Len()
	for a := range n + 1 {
		for b := a; b <= n; b++ {
			if s := x.Slice(0, a) + x.Slice(a, b) + x.Slice(b, n); s != x.String() {
				t.Errorf("cut at %d and %d: %q, not %q", a, b, s, x.String())
			}
		}
	}
}

// R2: what else is asked makes no difference.
func TestSameAgain(t *testing.T) {
	type answers struct {
		n, pieces, lines     int
		whole, part, in, out string
	}
	x := without(t, with(t, made(t, "ab\ncdef"), 3, "xy\n"), 5, 8)
	ask := func() answers {
		return answers{x.Len(), x.Pieces(), x.Lines(), x.String(), x.Slice(1, 4), with(t, x, 2, "z").String(), without(t, x, 1, 3).String()}
	}
	first := ask()
	for at := range x.Len() + 1 {
		with(t, x, at, "other")
		without(t, x, 0, at)
		x.Insert(at, strings.Repeat("a", api.MaxText))
		x.Delete(at, -1)
		made(t, "other")
		if again := ask(); again != first {
			t.Fatalf("%v, not %v", again, first)
		}
	}
}
