package term_test

import (
	"math"
	"math/rand"
	"slices"
	"strconv"
	"strings"
	"testing"

	"limner/api"
	"limner/grids"
	"limner/parser"
	"limner/term"
	"limner/widths"
)

// What the document says of a terminal, written out once more, with rows of runes in place of cells, to hold the package against.

// glyph is a rune that stands at a column of a row.
type glyph struct {
	col int
	r   rune
	s   api.Style
}

// model is what a terminal is.
type model struct {
	rows, cols, row, col int
	shown                map[int][]glyph // by row; where none stands, a blank does
	style                api.Style
	bells                int
	waits                bool
	at                   parser.Parser
}

func newModel(rows, cols int) *model {
	return &model{rows: rows, cols: cols, shown: map[int][]glyph{}}
}

// erase takes away all runes that have a cell from a column to another one, with it.
func (m *model) erase(row, from, to int) {
	m.shown[row] = slices.DeleteFunc(slices.Clone(m.shown[row]), func(g glyph) bool {
		return g.col <= to && g.col+widths.Of(g.r)-1 >= from
	})
}

func (m *model) lineFeed() {
	if m.row+1 < m.rows {
		m.row++
		return
	}
	up := map[int][]glyph{}
	for row := 1; row < m.rows; row++ {
		up[row-1] = m.shown[row]
	}
	m.shown = up
}

func (m *model) rune(r rune) {
	r = widths.Shown(r)
	w := widths.Of(r)
	if m.waits || w == 2 && m.col == m.cols-1 {
		m.col = 0
		m.lineFeed()
		m.waits = false
	}
	m.erase(m.row, m.col, m.col+w-1)
	m.shown[m.row] = append(m.shown[m.row], glyph{m.col, r, m.style})
	m.col += w
	if m.col > m.cols-1 {
		m.col = m.cols - 1
		m.waits = true
	}
}

func (m *model) control(r rune) {
	switch r {
	case 0x07:
		m.bells++
	case 0x0d:
		m.col, m.waits = 0, false
	case 0x08:
		m.waits = false
		if m.col > 0 {
			m.col--
		}
	case 0x0a:
		m.lineFeed()
		m.waits = false
	}
}

// within is a number that is from 0 to below an end.
func within(n, end int) int {
	if n < 0 {
		return 0
	}
	if n >= end {
		return end - 1
	}
	return n
}

func (m *model) sequence(final byte, params []int) {
	two := append(slices.Clone(params), 0, 0)
	n := two[0]
	one := n
	if n == 0 {
		one = 1
	}
	if !strings.ContainsRune("ABCDHJK", rune(final)) {
		if final == 'm' {
			m.sgr(params)
		}
		return
	}
	m.waits = false
	switch final {
	case 'A':
		m.row = within(m.row-one, m.rows)
	case 'B':
		m.row = within(m.row+one, m.rows)
	case 'C':
		m.col = within(m.col+one, m.cols)
	case 'D':
		m.col = within(m.col-one, m.cols)
	case 'H':
		m.row, m.col = within(n-1, m.rows), within(two[1]-1, m.cols)
	case 'J':
		for row := range m.rows {
			if n == 2 || n == 0 && row > m.row || n == 1 && row < m.row {
				m.erase(row, 0, m.cols)
			}
		}
		m.eraseLine(n)
	case 'K':
		m.eraseLine(n)
	}
}

func (m *model) eraseLine(n int) {
	switch n {
	case 0:
		m.erase(m.row, m.col, m.cols)
	case 1:
		m.erase(m.row, 0, m.col)
	case 2:
		m.erase(m.row, 0, m.cols)
	}
}

func (m *model) sgr(params []int) {
	if len(params) == 0 {
		params = []int{0}
	}
	for _, n := range params {
		switch {
		case n == 0:
			m.style = api.Style{}
		case n == 1:
			m.style.Bold = true
		case n == 22:
			m.style.Bold = false
		case n == 4:
			m.style.Under = true
		case n == 24:
			m.style.Under = false
		case n == 7:
			m.style.Inverse = true
		case n == 27:
			m.style.Inverse = false
		case n >= 30 && n <= 37:
			m.style.Fg = n - 29
		case n == 39:
			m.style.Fg = 0
		}
	}
}

func (m *model) write(s string) {
	for i := range len(s) {
		p, l := parser.Feed(m.at, s[i])
		m.at = p
		for _, a := range l {
			switch a.Kind {
			case parser.AcRune:
				m.rune(a.R)
			case parser.AcControl:
				m.control(a.R)
			case parser.AcCSI:
				m.sequence(a.Final, a.Params)
			}
		}
	}
}

func (m *model) resize(rows, cols int) {
	for row, l := range m.shown {
		m.shown[row] = slices.DeleteFunc(slices.Clone(l), func(g glyph) bool {
			return row >= rows || g.col+widths.Of(g.r) > cols
		})
	}
	m.rows, m.cols, m.waits = rows, cols, false
	m.row, m.col = within(m.row, rows), within(m.col, cols)
}

// frame is what the model shows.
func (m *model) frame() api.Frame {
	f := api.Frame{Rows: m.rows, Cols: m.cols, Row: m.row, Col: m.col}
	for range m.rows * m.cols {
		f.Cells = append(f.Cells, api.Cell{R: 0x20, W: 1})
	}
	for row, l := range m.shown {
		for _, g := range l {
			at := row*m.cols + g.col
			f.Cells[at] = api.Cell{R: g.r, W: widths.Of(g.r), Style: g.s}
			if widths.Of(g.r) == 2 {
				f.Cells[at+1] = api.Cell{Style: g.s}
			}
		}
	}
	return f
}

// equal tells whether two frames are one.
func equal(a, b api.Frame) bool {
	return a.Rows == b.Rows && a.Cols == b.Cols && a.Row == b.Row && a.Col == b.Col && slices.Equal(a.Cells, b.Cells)
}

// made is a terminal of New.
func made(t *testing.T, rows, cols int) *term.Term {
	t.Helper()
	x, e := term.New(rows, cols)
	if e != api.OK || x == nil {
		t.Fatalf("New(%d, %d): %v", rows, cols, e)
	}
	return x
}

// held holds a terminal against the model, behind what was written.
func held(t *testing.T, x *term.Term, m *model, s string) {
	t.Helper()
	f, want := x.Frame(), m.frame()
	if !equal(f, want) {
		t.Fatalf("%.200q: %q at %d, %d; not %q at %d, %d\n%v", s, grids.Rows(f), f.Row, f.Col, grids.Rows(want), want.Row, want.Col, f.Cells)
	}
	if !grids.Valid(f) {
		t.Fatalf("%.200q: %q may not be", s, grids.Rows(f))
	}
	if n := x.Bells(); n != m.bells {
		t.Fatalf("%.200q: rang %d times, not %d", s, n, m.bells)
	}
}

// tell writes texts to a new terminal, one by one, and holds it against the model behind each.
func tell(t *testing.T, rows, cols int, l ...string) {
	t.Helper()
	x, m := made(t, rows, cols), newModel(rows, cols)
	held(t, x, m, "")
	for i, s := range l {
		x.Write(s)
		m.write(s)
		held(t, x, m, strings.Join(l[:i+1], ""))
	}
}

// csi is a control sequence.
func csi(final string, params ...int) string {
	var l []string
	for _, n := range params {
		l = append(l, strconv.Itoa(n))
	}
	return "\x1b[" + strings.Join(l, ";") + final
}

// to brings the cursor to a place.
func to(row, col int) string { return csi("H", row+1, col+1) }

const (
	wide = "日"
	loud = "\x1b[1;4;7;37m" // a style that is as unlike the usual one as may be
	// A screen of 4 rows and 9 columns on which runes of both widths stand at each parity, in styles.
	full = "\x1b[31mab日日cd\x1b[0;4m.\x1b[2;1H日日\x1b[35m日日x\x1b[3;1Hx\x1b[m日日日日\x1b[4;1H\x1b[7;36m12345678\x1b[4;9H9"
)

// The document's examples: P8.2
func TestExamples(t *testing.T) {
	blanks := func(s string) string { return s + strings.Repeat(" ", 8-widths.Text(s)) }
	for _, x := range []struct {
		s        string
		rows     []string
		row, col int
	}{
		{"12345678", []string{"12345678", blanks("")}, 0, 7},
		{"123456789", []string{"12345678", blanks("9")}, 1, 1},
		{"ab\x1b[1;1Hx", []string{blanks("xb"), blanks("")}, 0, 1},
		{"1234567" + wide, []string{blanks("1234567"), blanks(wide)}, 1, 2},
		{"a\n\n\n", []string{blanks(""), blanks("")}, 1, 1},
	} {
		y := made(t, 2, 8)
		y.Write(x.s)
		f := y.Frame()
		if l := grids.Rows(f); !slices.Equal(l, x.rows) || f.Row != x.row || f.Col != x.col {
			t.Errorf("%q: %q at %d, %d", x.s, l, f.Row, f.Col)
		}
	}
}

// P8.1, R5: each size that may be is New's, at its edges, and no other one.
func TestNew(t *testing.T) {
	for _, rows := range []int{math.MinInt, -2, 0, 1, 2, 3, 57, 99, 100, 101, 1 << 32, math.MaxInt} {
		for _, cols := range []int{math.MinInt, -8, 0, 7, 8, 9, 130, 199, 200, 201, 1 << 32, math.MaxInt} {
			x, e := term.New(rows, cols)
			if rows < 2 || rows > 100 || cols < 8 || cols > 200 {
				if x != nil || e != api.ErrArg {
					t.Errorf("New(%d, %d): %v, %v", rows, cols, x, e)
				}
				continue
			}
			if e != api.OK {
				t.Fatalf("New(%d, %d): %v", rows, cols, e)
			}
			m := newModel(rows, cols)
			held(t, x, m, "")
			// The usual style, and no wrap waits.
			x.Write("a")
			m.write("a")
			held(t, x, m, "a")
		}
	}
}

// P8.1, R4: a frame is a copy, and so is what was told ahead.
func TestFrame(t *testing.T) {
	x, m := made(t, 4, 9), newModel(4, 9)
	x.Write(full)
	m.write(full)
	f := x.Frame()
	for i := range f.Cells {
		f.Cells[i] = api.Cell{R: 'z', W: 7}
	}
	f.Row, f.Col = 99, 99
	held(t, x, m, full)
	f = x.Frame()
	before := slices.Clone(f.Cells)
	for _, s := range []string{"q", "\n\n", csi("J", 2)} {
		x.Write(s)
		if !slices.Equal(f.Cells, before) {
			t.Fatalf("%q: a frame that was told is another one", s)
		}
	}
	f = x.Frame()
	before = slices.Clone(f.Cells)
	x.Resize(4, 9)
	x.Write(full)
	if !slices.Equal(f.Cells, before) {
		t.Error("behind a Resize a frame that was told is another one")
	}
}

// P8.2: runes of each kind at each place, with what stands there, and two more behind them.
func TestRunes(t *testing.T) {
	for _, s := range []string{"a", wide, "\t\u0301", "\u00e9", "\u0301", "\u200b", "\u0085", "\ufffd", "\U0001f600", "\ufeff", " ", "~", "\u3000"} {
		for row := range 4 {
			for col := range 9 {
				for _, next := range []string{"", "x", wide} {
					tell(t, 4, 9, full+"\x1b[m", to(row, col), s, next, "y")
					tell(t, 4, 9, full, loud+to(row, col)+s, next, "y")
				}
			}
		}
	}
}

// P8.2: rows of one kind or the other one, from each column, more than there is room for.
func TestWrap(t *testing.T) {
	for cols := 8; cols <= 11; cols++ {
		for front := range cols + 2 {
			for _, s := range []string{"a", wide, "a" + wide, wide + wide + "a"} {
				l := []string{strings.Repeat(".", front)}
				for range 5 * cols {
					l = append(l, s)
				}
				tell(t, 3, cols, l...)
			}
		}
	}
}

// P8.2: each control at each place, also where a wrap waits, and what is written then.
func TestControls(t *testing.T) {
	for b := range 0x80 {
		s := string([]byte{byte(b)})
		if b >= 0x20 && b < 0x7f || b == 0x1b {
			continue
		}
		for _, next := range []string{"x", wide, "\n", s} {
			for row := range 4 {
				for col := range 9 {
					tell(t, 4, 9, full, to(row, col), s, next)
				}
				tell(t, 4, 9, full, to(row, 8)+"w", s, next)
				tell(t, 4, 9, full, to(row, 7)+wide, s, next)
			}
		}
	}
}

// P8.2: how often it rang.
func TestBells(t *testing.T) {
	x := made(t, 2, 8)
	for n := range 300 {
		if x.Bells() != n {
			t.Fatalf("%d, not %d", x.Bells(), n)
		}
		x.Write("a\x07\x1b[H")
	}
	// In the midst of a sequence it rings, too; a rune is none.
	x.Write("\x1b[\x07;\x07H\x1b\x07c\xc2\x87\xe2\x07")
	if x.Bells() != 304 {
		t.Error(x.Bells())
	}
}

// numbers are Params of one sequence.
var numbers = [][]int{nil, {0}, {1}, {2}, {3}, {4}, {5}, {8}, {9}, {10}, {9998}, {9999}, {0, 0}, {0, 3}, {1, 1}, {2, 0}, {2, 9}, {3, 5, 4}, {4, 10}, {5, 2}, {9999, 9999}, {1, 2, 3, 4, 5, 6, 7, 8, 9, 10, 11, 12, 13, 14, 15, 16}}

// P8.2: sequences that move and erase, with each number, at each place, also where a wrap waits, and what is written then.
func TestSequences(t *testing.T) {
	for _, final := range []string{"A", "B", "C", "D", "H", "J", "K"} {
		for _, l := range numbers {
			s := csi(final, l...)
			for row := range 4 {
				for col := range 9 {
					tell(t, 4, 9, full, to(row, col), s, "x", wide)
				}
				tell(t, 4, 9, full, to(row, 8)+"w", s, "x")
				tell(t, 4, 9, full, to(row, 7)+wide, s, wide)
			}
		}
	}
}

// P8.2: all other sequences do nothing, with any numbers: also the wrap waits still.
func TestOthers(t *testing.T) {
	for b := byte(0x40); b < 0x7f; b++ {
		if strings.IndexByte("ABCDHJKm", b) >= 0 {
			continue
		}
		for _, l := range numbers {
			s := csi(string([]byte{b}), l...)
			tell(t, 4, 9, full, to(1, 3), s, "x")
			tell(t, 4, 9, full, to(1, 8)+"w", s, "x")
		}
	}
}

// P8.2: escapes, and bytes that are none, do nothing.
func TestNothing(t *testing.T) {
	l := []string{"", "\xff", "\x80", "\xe2\x82", "\xe2\x82\xff", "\x1b\x1b\x18", "\x1b[?25h", "\x1b[1 q", "\x1b[>1J", "\x1b[\x18", "\x1b\x7f", "\x1b ", "\x1b[" + strings.Repeat(";", 16) + "H"}
	for b := byte(0x30); b < 0x7f; b++ {
		if b != '[' {
			l = append(l, "\x1b"+string([]byte{b}))
		}
	}
	for _, s := range l {
		for _, front := range []string{to(1, 3), to(1, 8) + "w", to(3, 8) + "w"} {
			x, y := made(t, 4, 9), made(t, 4, 9)
			x.Write(full + front)
			y.Write(full + front)
			x.Write(s)
			if !equal(x.Frame(), y.Frame()) || x.Bells() != 0 {
				t.Errorf("%q is something", s)
			}
			// A sign that no rune and no sequence goes on with: what was begun is broken off.
			x.Write("\x1b[Cx")
			y.Write("\x1b[Cx")
			if !equal(x.Frame(), y.Frame()) {
				t.Errorf("%q is something, behind it", s)
			}
			tell(t, 4, 9, full+front, s, "x")
		}
	}
}

// P8.2: each number of m, alone, from styles of all kinds.
func TestStyle(t *testing.T) {
	for n := range 300 {
		for _, front := range []string{"", loud, "\x1b[1m", "\x1b[4m", "\x1b[7m", "\x1b[30m", "\x1b[1;4;34m"} {
			tell(t, 2, 8, front, csi("m", n), "x", wide)
		}
	}
	for _, n := range []int{9999, 10007, 65537} {
		tell(t, 2, 8, loud, csi("m", n), "x")
	}
}

// P8.2: of more numbers than one each is taken, in order.
func TestStyles(t *testing.T) {
	l := []int{0, 1, 22, 4, 24, 7, 27, 30, 33, 37, 39, 2, 38, 40, 97}
	for _, a := range l {
		for _, b := range l {
			for _, c := range l {
				tell(t, 2, 8, loud, csi("m", a, b, c), "x")
				tell(t, 2, 8, csi("m", a, b, c), "x")
			}
		}
	}
	tell(t, 2, 8, loud, "\x1b[m", "x")
	tell(t, 2, 8, loud, "\x1b[;1m", "x")
	tell(t, 2, 8, loud, "\x1b[1;m", "x")
	tell(t, 2, 8, "\x1b[31;;;;;;;;;;;;;;;4m", "x")
	tell(t, 2, 8, "\x1b[31;;;;;;;;;;;;;;;;4m", "x")
}

// P8.2: a wrap waits on when the style changes, and the style is of what is to come alone.
func TestStyleWaits(t *testing.T) {
	tell(t, 2, 8, "12345678", loud, "x", "\x1b[m", "\n\n", "y")
	tell(t, 2, 8, loud+"12345678", "\n", csi("K", 2), csi("J"), "\r\n\n")
	tell(t, 2, 8, loud+"123456"+wide, to(0, 6)+"\x1b[m", "x")
	tell(t, 2, 8, loud+"123456"+wide, to(0, 7)+"\x1b[m", "x")
	tell(t, 2, 8, loud+wide+wide, to(0, 1)+"\x1b[m", wide)
}

// sizes are numbers of rows and columns, some of which may not be.
var (
	rowSizes = []int{math.MinInt, -1, 0, 1, 2, 3, 4, 5, 100, 101, math.MaxInt}
	colSizes = []int{math.MinInt, -1, 0, 7, 8, 9, 10, 12, 200, 201, math.MaxInt}
)

// P8.1: another size, from each place, with what is written then; a size that may not be changes nothing.
func TestResize(t *testing.T) {
	for _, rows := range rowSizes {
		for _, cols := range colSizes {
			for _, front := range []string{to(0, 0), to(3, 8), to(1, 4), to(2, 7), to(1, 8) + "w", to(3, 8) + "w", loud + to(3, 7) + wide, "\a\x1b[31m"} {
				resized(t, rows, cols, front)
			}
		}
	}
}

func resized(t *testing.T, rows, cols int, front string) {
	t.Helper()
	x, m := made(t, 4, 9), newModel(4, 9)
	x.Write(full + front)
	m.write(full + front)
	e := x.Resize(rows, cols)
	if rows >= 2 && rows <= 100 && cols >= 8 && cols <= 200 {
		m.resize(rows, cols)
		if e != api.OK {
			t.Fatalf("%d, %d: %v", rows, cols, e)
		}
	} else if e != api.ErrArg {
		t.Fatalf("%d, %d: %v, not ErrArg", rows, cols, e)
	}
	held(t, x, m, front)
	for _, s := range []string{"x", wide, "\n\n\n", "123456789"} {
		x.Write(s)
		m.write(s)
		held(t, x, m, front+s)
	}
}

// P8.1: it goes on as it was in the midst of a rune, an escape and a sequence.
func TestResizeMidst(t *testing.T) {
	for _, s := range []string{wide, "\U0001f600", "\x1b[2;3H", "\x1b[31;4m", "\x1bc", "\x1b[\a1J", "\x1b[?1h"} {
		for n := range len(s) + 1 {
			for _, size := range [][2]int{{4, 9}, {2, 8}, {5, 20}, {1, 1}} {
				x, m := made(t, 4, 9), newModel(4, 9)
				x.Write(full + s[:n])
				m.write(full + s[:n])
				if x.Resize(size[0], size[1]) == api.OK {
					m.resize(size[0], size[1])
				}
				x.Write(s[n:])
				m.write(s[n:])
				held(t, x, m, s)
				x.Write("x")
				m.write("x")
				held(t, x, m, s+"x")
			}
		}
	}
}

// P8.3, R1, R3: one that is none, before and after it was told anything.
func TestNone(t *testing.T) {
	for _, x := range []*term.Term{nil, {}, new(term.Term)} {
		for range 2 {
			if f := x.Frame(); f.Cells != nil || !equal(f, api.Frame{}) {
				t.Errorf("Frame: %v", f)
			}
			if n := x.Bells(); n != 0 {
				t.Errorf("Bells: %d", n)
			}
			for _, size := range [][2]int{{2, 8}, {0, 0}, {math.MaxInt, math.MinInt}} {
				if e := x.Resize(size[0], size[1]); e != api.ErrNil {
					t.Errorf("Resize: %v", e)
				}
			}
			x.Write("a\a\x1b[31m\xe2")
			x.Write("")
		}
	}
}

// parts are what random texts are made of.
var parts = []string{
	"a", "b", " ", "xyz", "12345678", wide, wide + wide + wide, "\U0001f600", "\u0301", "\u00e9", "\a", "\b", "\n", "\r", "\t", "\x00", "\x7f", "\x1b", "\x1b[", "\x1b[1", ";", "\x18",
	"\x1b[A", "\x1b[2B", "\x1b[3C", "\x1b[D", "\x1b[9D", "\x1b[H", "\x1b[2;4H", "\x1b[9;9H", "\x1b[J", "\x1b[1J", "\x1b[2J", "\x1b[3J", "\x1b[K", "\x1b[1K", "\x1b[2K",
	"\x1b[m", "\x1b[1m", "\x1b[4;7m", "\x1b[22;24m", "\x1b[27m", "\x1b[31m", "\x1b[37;1m", "\x1b[39m", "\x1bc", "\x1b[?1h", "\xff", "\xe2\x82", "\xf0\x9f",
}

// random is a text of parts, or of any bytes.
func random(r *rand.Rand) string {
	var b strings.Builder
	for range r.Intn(30) {
		if r.Intn(20) == 0 {
			b.WriteByte(byte(r.Intn(0x100)))
			continue
		}
		b.WriteString(parts[r.Intn(len(parts))])
	}
	return b.String()
}

// P8.1, P8.2, P8.4: whatever is written, in whatever parts, and resized.
func TestRandom(t *testing.T) {
	r := rand.New(rand.NewSource(8))
	for range 2000 {
		rows, cols := 2+r.Intn(4), 8+r.Intn(6)
		x, m := made(t, rows, cols), newModel(rows, cols)
		for range 20 {
			s := random(r)
			n := r.Intn(len(s) + 1)
			x.Write(s[:n])
			x.Write(s[n:])
			m.write(s)
			held(t, x, m, s)
			if r.Intn(10) == 0 {
				rows, cols = 1+r.Intn(6), 7+r.Intn(8)
				if x.Resize(rows, cols) == api.OK {
					m.resize(rows, cols)
				}
				held(t, x, m, "a resize")
			}
		}
	}
}

// P8.4, R2: how bytes are parted makes no difference.
func TestParted(t *testing.T) {
	r := rand.New(rand.NewSource(84))
	for range 1000 {
		s := random(r) + random(r)
		whole, each := made(t, 3, 10), made(t, 3, 10)
		whole.Write(s)
		for i := range len(s) {
			each.Write(s[i : i+1])
			each.Write("")
		}
		if !equal(whole.Frame(), each.Frame()) || whole.Bells() != each.Bells() {
			t.Fatalf("%q: %q, and byte by byte %q", s, grids.Rows(whole.Frame()), grids.Rows(each.Frame()))
		}
	}
}

// P8.4: behind a clearing and the usual style nothing is left of what was written ahead, in whatever midst that ended.
func TestCleared(t *testing.T) {
	r := rand.New(rand.NewSource(48))
	for range 2000 {
		x, y := made(t, 4, 9), made(t, 4, 9)
		x.Write(random(r) + random(r))
		for _, s := range []string{"\x1b[H\x1b[2J\x1b[m", random(r)} {
			x.Write(s)
			y.Write(s)
			if !equal(x.Frame(), y.Frame()) {
				t.Fatalf("%q: %q, not %q", s, grids.Rows(x.Frame()), grids.Rows(y.Frame()))
			}
		}
	}
}

// R2: terminals have nothing to do with each other.
func TestApart(t *testing.T) {
	x, y := made(t, 4, 9), made(t, 4, 9)
	m := newModel(4, 9)
	x.Write(loud + full + "\a\x1b[")
	y.Write("2J")
	m.write("2J")
	held(t, y, m, "2J")
}

// R1: the greatest size, full of runes of both widths, and scrolled.
func TestGreatest(t *testing.T) {
	x, m := made(t, 100, 200), newModel(100, 200)
	var b strings.Builder
	for i := range 120 * 150 {
		b.WriteString([]string{"a", wide, "\x1b[32m", "b"}[i%4])
	}
	x.Write(b.String())
	m.write(b.String())
	held(t, x, m, "a great text")
	for _, s := range []string{"\x1b[50;100H", "\x1b[J", "\x1b[25;101H\x1b[1J", "\x1b[2J", strings.Repeat("\n", 300)} {
		x.Write(s)
		m.write(s)
		held(t, x, m, s)
	}
}
