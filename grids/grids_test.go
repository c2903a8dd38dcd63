package grids_test

import (
	"math"
	"math/rand"
	"slices"
	"testing"

	"limner/api"
	"limner/codes"
	"limner/grids"
	"limner/widths"
)

const (
	kanji = 0x65e5  // a rune that takes two cells
	emoji = 0x1f600 // another one
)

// space is a blank, as the document has it.
var space = api.Cell{R: 32, W: 1}

// loud is a style that is as unlike the usual one as may be.
var loud = api.Style{Fg: 8, Bold: true, Under: true, Inverse: true}

// extremes are numbers far from all sizes and places.
var extremes = []int{math.MinInt, math.MinInt + 1, math.MinInt32, -api.MaxCols, -1, math.MaxInt32, 1 << 32, math.MaxInt - 1, math.MaxInt}

// badRunes are numbers that take no cells: runes that are not shown as they are, and what is no rune.
var badRunes = []rune{0, 7, '\t', '\n', 0x1b, 0x7f, 0x9f, 0x301, 0x200b, 0x202e, 0xfe0f, 0xfeff, 0xd800, 0xdfff, 0x110000, -1, math.MinInt32, math.MaxInt32}

// badStyles are styles that may not be.
var badStyles = []api.Style{{Fg: -1}, {Fg: 9}, {Fg: 9, Bold: true, Under: true, Inverse: true}, {Fg: math.MinInt}, {Fg: math.MaxInt}}

// allStyles are all styles that may be.
func allStyles() []api.Style {
	var l []api.Style
	for fg := 0; fg <= 8; fg++ {
		for bits := range 8 {
			l = append(l, api.Style{Fg: fg, Bold: bits&1 > 0, Under: bits&2 > 0, Inverse: bits&4 > 0})
		}
	}
	return l
}

// glyph is a rune that stands somewhere.
type glyph struct {
	row, col int
	r        rune
	s        api.Style
}

// model is a frame as the runes that were put into it, and blanks everywhere else.
type model struct {
	rows, cols, row, col int
	glyphs               []glyph
}

// put puts a rune in, where it may be: those that lose a cell by it are gone.
func (m *model) put(g glyph) {
	w := widths.Of(g.r)
	if w < 1 || g.row < 0 || g.row >= m.rows || g.col < 0 || g.col > m.cols-w || g.s.Fg < 0 || g.s.Fg > 8 {
		return
	}
	m.glyphs = slices.DeleteFunc(slices.Clone(m.glyphs), func(h glyph) bool {
		return h.row == g.row && h.col < g.col+w && g.col < h.col+widths.Of(h.r)
	})
	m.glyphs = append(m.glyphs, g)
}

// resized is the model in another size: those that are not whole any more are gone.
func (m model) resized(rows, cols int) model {
	whole := slices.DeleteFunc(slices.Clone(m.glyphs), func(h glyph) bool {
		return h.row >= rows || h.col+widths.Of(h.r) > cols
	})
	return model{rows, cols, min(m.row, rows-1), min(m.col, cols-1), whole}
}

// frame is what the model shows.
func (m model) frame() api.Frame {
	f := api.Frame{Rows: m.rows, Cols: m.cols, Row: m.row, Col: m.col}
	for range m.rows * m.cols {
		f.Cells = append(f.Cells, space)
	}
	for _, g := range m.glyphs {
		at := g.row*m.cols + g.col
		f.Cells[at] = api.Cell{R: g.r, W: widths.Of(g.r), Style: g.s}
		if widths.Of(g.r) == 2 {
			f.Cells[at+1] = api.Cell{Style: g.s}
		}
	}
	return f
}

// equal is what Same is to tell.
func equal(a, b api.Frame) bool {
	return a.Rows == b.Rows && a.Cols == b.Cols && a.Row == b.Row && a.Col == b.Col && slices.Equal(a.Cells, b.Cells)
}

// zero tells whether a frame is the zero one.
func zero(f api.Frame) bool {
	return f.Cells == nil && equal(f, api.Frame{})
}

// copied is the same frame in memory of its own.
func copied(f api.Frame) api.Frame {
	f.Cells = slices.Clone(f.Cells)
	return f
}

// made is a frame of New.
func made(t *testing.T, rows, cols int) api.Frame {
	t.Helper()
	f, e := grids.New(rows, cols)
	if e != api.OK {
		t.Fatalf("New(%d, %d): %v", rows, cols, e)
	}
	return f
}

// held holds a frame against what it is to be, which may be.
func held(t *testing.T, f, want api.Frame) {
	t.Helper()
	if !equal(f, want) {
		t.Fatalf("%d, %d, the cursor %d, %d, %q; not %d, %d, %d, %d, %q",
			f.Rows, f.Cols, f.Row, f.Col, grids.Rows(f), want.Rows, want.Cols, want.Row, want.Col, grids.Rows(want))
	}
	if !grids.Valid(f) {
		t.Fatalf("%q may not be", grids.Rows(want))
	}
}

// put is Put, held against the model, which is told the same; the frame stays as it was, and the answer is new memory.
func put(t *testing.T, m *model, f api.Frame, g glyph) api.Frame {
	t.Helper()
	before := copied(f)
	h := grids.Put(f, g.row, g.col, g.r, g.s)
	m.put(g)
	held(t, h, m.frame())
	held(t, f, before)
	h.Cells[0].R++
	held(t, f, before)
	h.Cells[0].R--
	return h
}

// texts is a frame of 4 rows and 12 columns with runes of both widths at each parity, and a cursor.
func texts() model {
	m := model{rows: 4, cols: 12, row: 2, col: 9}
	for col := 0; col < 12; col += 2 {
		m.put(glyph{0, col, kanji, api.Style{Fg: col % 9}})
		m.put(glyph{1, col + 1, emoji, loud})
		m.put(glyph{2, col, rune('a' + col), api.Style{Bold: true}})
		m.put(glyph{3, 3 * col % 12, kanji, api.Style{}})
	}
	return m
}

// wrongs are frames that may not be.
func wrongs() []api.Frame {
	good := texts().frame()
	var l []api.Frame
	add := func(change func(f *api.Frame)) {
		f := copied(good)
		change(&f)
		l = append(l, f)
	}
	for _, n := range append([]int{0, 1, 3, 5}, extremes...) {
		add(func(f *api.Frame) { f.Rows = n })
		add(func(f *api.Frame) { f.Cols = n })
		add(func(f *api.Frame) { f.Rows, f.Cols = n, n })
		add(func(f *api.Frame) { f.Rows, f.Cols, f.Cells = n, n, nil })
	}
	add(func(f *api.Frame) { f.Cells = nil })
	add(func(f *api.Frame) { f.Cells = f.Cells[:47] })
	add(func(f *api.Frame) { f.Cells = append(f.Cells, space) })
	for _, n := range extremes {
		add(func(f *api.Frame) { f.Row = n })
		add(func(f *api.Frame) { f.Col = n })
	}
	add(func(f *api.Frame) { f.Row = 4 })
	add(func(f *api.Frame) { f.Col = 12 })
	for _, r := range badRunes {
		for w := range 3 {
			add(func(f *api.Frame) { f.Cells[26] = api.Cell{R: r, W: w} })
			add(func(f *api.Frame) { f.Cells[0].R = r })
		}
	}
	for _, s := range badStyles {
		add(func(f *api.Frame) { f.Cells[24].Style = s })
		add(func(f *api.Frame) { f.Cells[47].Style = s })
		add(func(f *api.Frame) { f.Cells[0].Style, f.Cells[1].Style = s, s })
	}
	return append(l, api.Frame{})
}

// The document's examples: P6.1, P6.2, P6.3, P6.4
func TestExamples(t *testing.T) {
	f := grids.Put(made(t, 2, 8), 0, 6, kanji, api.Style{})
	if rows := grids.Rows(f); !slices.Equal(rows, []string{"      \u65e5", "        "}) {
		t.Errorf("%q", rows)
	}
	g := grids.Put(f, 0, 7, 'a', api.Style{})
	if rows := grids.Rows(g); !slices.Equal(rows, []string{"       a", "        "}) {
		t.Errorf("%q", rows)
	}
	if n := grids.Diff(f, g); n != 2 {
		t.Errorf("Diff: %d", n)
	}
	held(t, grids.Put(f, 0, 7, kanji, api.Style{}), f)
	held(t, grids.Put(f, 2, 0, 'a', api.Style{}), f)
	if h, e := grids.New(1, 8); !zero(h) || e != api.ErrArg {
		t.Errorf("New(1, 8): %v, %v", h, e)
	}
	if h, e := grids.Resize(api.Frame{}, 2, 8); !zero(h) || e != api.ErrArg {
		t.Errorf("Resize of nothing: %v, %v", h, e)
	}
}

// P6.1
func TestNew(t *testing.T) {
	for _, rows := range []int{2, 3, 24, 99, 100} {
		for _, cols := range []int{8, 9, 80, 199, 200} {
			held(t, made(t, rows, cols), model{rows: rows, cols: cols}.frame())
		}
	}
	wrong := append([]int{0, 1, 201}, extremes...)
	for _, n := range append([]int{2, 8, 100}, wrong...) {
		for _, bad := range wrong {
			newFails(t, n, bad)
			newFails(t, bad, n)
		}
	}
	for _, n := range []int{8, 50, 200} {
		newFails(t, 101, n)
		newFails(t, 1, n)
	}
	for _, n := range []int{2, 50, 100} {
		newFails(t, n, 7)
		newFails(t, n, 201)
	}
}

// newFails asks for a frame that may not be.
func newFails(t *testing.T, rows, cols int) {
	t.Helper()
	if f, e := grids.New(rows, cols); !zero(f) || e != api.ErrArg {
		t.Errorf("New(%d, %d): %d cells, %v", rows, cols, len(f.Cells), e)
	}
}

// P6.1: sizes, cursors, runes and styles at their edges.
func TestValid(t *testing.T) {
	for _, size := range [][2]int{{2, 8}, {2, 200}, {100, 8}, {100, 200}, {4, 12}} {
		f := made(t, size[0], size[1])
		for _, f.Row = range []int{-1, 0, 1, size[0] - 1, size[0]} {
			for _, f.Col = range []int{-1, 0, 1, size[1] - 1, size[1]} {
				want := f.Row >= 0 && f.Row < size[0] && f.Col >= 0 && f.Col < size[1]
				if grids.Valid(f) != want {
					t.Errorf("%d, %d, the cursor at %d, %d: not %v", f.Rows, f.Cols, f.Row, f.Col, want)
				}
			}
		}
	}
	for _, size := range [][2]int{{1, 8}, {2, 7}, {101, 8}, {2, 201}, {1, 16}, {0, 0}, {0, 8}, {2, 0}, {-2, -8}} {
		f := api.Frame{Rows: size[0], Cols: size[1], Cells: slices.Repeat([]api.Cell{space}, max(0, size[0]*size[1]))}
		if grids.Valid(f) {
			t.Errorf("%v may be", size)
		}
	}
	for _, s := range allStyles() {
		m := model{rows: 2, cols: 8, glyphs: []glyph{{0, 0, 'a', s}, {1, 6, kanji, s}}}
		if !grids.Valid(m.frame()) {
			t.Errorf("%v may not be", s)
		}
	}
	for _, r := range []rune{32, '~', 0xa0, 0x2ff, 0xff61, 0xfffd, 0x10ffff, 0x1100, 0xff01, kanji, emoji} {
		m := model{rows: 2, cols: 8, glyphs: []glyph{{0, 0, r, loud}}}
		if !grids.Valid(m.frame()) {
			t.Errorf("%x may not be", r)
		}
	}
	for i, f := range wrongs() {
		if grids.Valid(f) {
			t.Errorf("%d may be: %d, %d, %d cells, the cursor at %d, %d", i, f.Rows, f.Cols, len(f.Cells), f.Row, f.Col)
		}
	}
}

// cellMay is what the document says of one cell of a row, by those beside it.
func cellMay(row []api.Cell, i int) bool {
	c := row[i]
	left := i > 0 && row[i-1].W == 2 && row[i-1].Style == c.Style
	right := i+1 < len(row) && row[i+1].W == 0 && row[i+1].R == 0 && row[i+1].Style == c.Style
	switch {
	case c.Style.Fg < 0 || c.Style.Fg > 8:
		return false
	case c.R == 0 && c.W == 0:
		return left
	case c.W == 2:
		return widths.Of(c.R) == 2 && right
	}
	return c.W == 1 && widths.Of(c.R) == 1
}

// P6.1: all rows whose last three cells, or first three, are of these.
func TestValidRows(t *testing.T) {
	cells := []api.Cell{
		space, {R: 'a', W: 1, Style: loud}, {R: 'a', W: 2}, {R: 'a'}, {R: 'a', W: -1}, {R: 'a', W: 3},
		{R: kanji, W: 2}, {R: kanji, W: 2, Style: loud}, {R: kanji, W: 1}, {R: kanji}, {R: emoji, W: 2, Style: api.Style{Fg: 1}},
		{}, {Style: loud}, {Style: api.Style{Fg: 1}}, {Style: api.Style{Bold: true}}, {Style: api.Style{Under: true}}, {Style: api.Style{Inverse: true}},
		{Style: api.Style{Fg: 9}}, {W: 1}, {W: 2}, {R: 32}, {R: 9, W: 1}, {R: 9}, {R: 0xd800, W: 1}, {R: -1, W: 0},
	}
	for _, at := range []int{0, 5, 8, 13} {
		f := made(t, 2, 8)
		three := f.Cells[at : at+3]
		for _, three[0] = range cells {
			for _, three[1] = range cells {
				for _, three[2] = range cells {
					row := f.Cells[at/8*8:][:8]
					want := true
					for i := range row {
						want = want && cellMay(row, i)
					}
					if grids.Valid(f) != want {
						t.Fatalf("%v from %d on: not %v", three, at, want)
					}
				}
			}
		}
	}
}

// P6.1: a wide rune does not go on in the next row.
func TestValidOverRows(t *testing.T) {
	f := made(t, 3, 8)
	f.Cells[7] = api.Cell{R: kanji, W: 2, Style: loud}
	f.Cells[8] = api.Cell{Style: loud}
	if grids.Valid(f) {
		t.Error("it goes on")
	}
	f.Cells[23], f.Cells[7], f.Cells[8] = api.Cell{R: kanji, W: 2}, space, space
	if grids.Valid(f) {
		t.Error("it goes on behind the last row")
	}
}

// P6.1
func TestSame(t *testing.T) {
	frames := append(wrongs(), texts().frame(), made(t, 8, 10), made(t, 10, 8))
	for at := range 48 {
		for _, change := range []func(c *api.Cell){
			func(c *api.Cell) { c.R++ },
			func(c *api.Cell) { c.W++ },
			func(c *api.Cell) { c.Style.Fg++ },
			func(c *api.Cell) { c.Style.Bold = !c.Style.Bold },
			func(c *api.Cell) { c.Style.Under = !c.Style.Under },
			func(c *api.Cell) { c.Style.Inverse = !c.Style.Inverse },
		} {
			f := texts().frame()
			change(&f.Cells[at])
			frames = append(frames, f)
		}
	}
	for _, a := range frames {
		if !grids.Same(a, copied(a)) {
			t.Fatalf("%v is not the same as itself", a)
		}
		for _, b := range frames {
			if grids.Same(a, b) != equal(a, b) {
				t.Fatalf("%v and %v: not %v", a, b, equal(a, b))
			}
		}
	}
	// A list may be nil or empty: that is one and the same.
	if !grids.Same(api.Frame{Cells: []api.Cell{}}, api.Frame{}) || !grids.Same(api.Frame{Rows: -3, Cells: nil}, api.Frame{Rows: -3, Cells: []api.Cell{}}) {
		t.Error("no cells are not no cells")
	}
}

// P6.2: all runs of three, of both widths, in one row.
func TestPutRuns(t *testing.T) {
	var l []glyph
	for col := range 8 {
		for i, r := range []rune{'a', kanji} {
			l = append(l, glyph{1, col, r, api.Style{Fg: (col + i) % 9, Under: i == 0}})
		}
	}
	m := model{rows: 2, cols: 8, row: 1, col: 3}
	f := m.frame()
	for _, a := range l {
		m1 := m
		f1 := put(t, &m1, f, a)
		for _, b := range l {
			m2 := m1
			f2 := put(t, &m2, f1, b)
			for _, c := range l {
				m3 := m2
				put(t, &m3, f2, c)
			}
		}
	}
}

// P6.2: runes, styles and places that may be and that may not, one behind the other.
func TestPutLong(t *testing.T) {
	random := rand.New(rand.NewSource(6))
	runes := append([]rune{'a', 32, 0xfffd, 0x10ffff, kanji, kanji, emoji, emoji, 0x1100}, badRunes...)
	styles := append(allStyles(), badStyles...)
	m := model{rows: 3, cols: 11, row: 2, col: 10}
	f := m.frame()
	for range 5000 {
		g := glyph{random.Intn(5) - 1, random.Intn(14) - 1, runes[random.Intn(len(runes))], styles[random.Intn(len(styles))]}
		f = put(t, &m, f, g)
	}
}

// P6.2: what can't be put in leaves the frame as it was.
func TestPutNothing(t *testing.T) {
	for _, r := range badRunes {
		stays(t, glyph{2, 2, r, loud})
		stays(t, glyph{0, 0, r, api.Style{}})
		stays(t, glyph{0, 1, r, api.Style{}})
	}
	for _, r := range []rune{'z', emoji} {
		for _, s := range badStyles {
			stays(t, glyph{2, 2, r, s})
			stays(t, glyph{0, 1, r, s})
		}
		for _, n := range append([]int{12, 24, 1 << 40}, extremes...) {
			for row := range 4 {
				stays(t, glyph{n, row, r, loud})
				stays(t, glyph{row, n, r, loud})
			}
			stays(t, glyph{n, n, r, loud})
		}
		stays(t, glyph{4, 0, r, loud})
		stays(t, glyph{4, 11, r, loud})
	}
	for row := range 4 {
		stays(t, glyph{row, 11, emoji, loud})
	}
}

// stays puts in what can't be put in; what is told is new memory all the same.
func stays(t *testing.T, g glyph) {
	t.Helper()
	want := texts().frame()
	f := copied(want)
	h := grids.Put(f, g.row, g.col, g.r, g.s)
	held(t, h, want)
	h.Cells[0].R++
	held(t, f, want)
}

// P6.2: each style that may be is kept as it is.
func TestPutStyles(t *testing.T) {
	m := texts()
	f := m.frame()
	for i, s := range allStyles() {
		f = put(t, &m, f, glyph{i % 4, i % 11, []rune{'q', kanji}[i%2], s})
	}
}

// P6.2, R1
func TestPutIntoWrong(t *testing.T) {
	for i, f := range wrongs() {
		for _, n := range append([]int{0, 1}, extremes...) {
			for _, r := range append([]rune{'a', kanji}, badRunes...) {
				if h := grids.Put(f, n, n, r, loud); !zero(h) {
					t.Fatalf("%d: %d, %d, %d cells", i, h.Rows, h.Cols, len(h.Cells))
				}
			}
		}
	}
}

// P6.3: to each size around, with each cursor.
func TestResize(t *testing.T) {
	m := texts()
	for rows := 2; rows <= 7; rows++ {
		for cols := 8; cols <= 15; cols++ {
			for m.row = range m.rows {
				for m.col = range m.cols {
					f := m.frame()
					g, e := grids.Resize(f, rows, cols)
					if e != api.OK {
						t.Fatalf("Resize to %d, %d: %v", rows, cols, e)
					}
					held(t, g, m.resized(rows, cols).frame())
					g.Cells[0].R++
					held(t, f, m.frame())
				}
			}
		}
	}
}

// P6.3: one size after the other, with what is put in between them.
func TestResizeLong(t *testing.T) {
	random := rand.New(rand.NewSource(63))
	m := model{rows: 2, cols: 8}
	f := m.frame()
	for range 600 {
		for range 9 {
			r := []rune{'x', kanji, emoji}[random.Intn(3)]
			f = put(t, &m, f, glyph{random.Intn(m.rows), random.Intn(m.cols), r, api.Style{Fg: random.Intn(9)}})
		}
		m.row, m.col = random.Intn(m.rows), random.Intn(m.cols)
		f.Row, f.Col = m.row, m.col
		rows, cols := 2+random.Intn(6), 8+random.Intn(9)
		g, e := grids.Resize(f, rows, cols)
		if e != api.OK {
			t.Fatalf("Resize to %d, %d: %v", rows, cols, e)
		}
		m = m.resized(rows, cols)
		held(t, g, m.frame())
		f = g
	}
}

// P6.3: the greatest and the smallest size, and none.
func TestResizeEdges(t *testing.T) {
	m := texts()
	f := m.frame()
	for _, size := range [][2]int{{2, 8}, {100, 200}, {2, 200}, {100, 8}, {4, 12}} {
		g, e := grids.Resize(f, size[0], size[1])
		if e != api.OK {
			t.Fatalf("%v: %v", size, e)
		}
		held(t, g, m.resized(size[0], size[1]).frame())
	}
	wrong := append([]int{0, 1, 201}, extremes...)
	for _, n := range append([]int{2, 8, 12, 100}, wrong...) {
		for _, bad := range wrong {
			resizeFails(t, f, n, bad)
			resizeFails(t, f, bad, n)
		}
	}
	for _, size := range [][2]int{{1, 12}, {101, 12}, {4, 7}, {4, 201}} {
		resizeFails(t, f, size[0], size[1])
	}
	for _, g := range wrongs() {
		resizeFails(t, g, 4, 12)
		resizeFails(t, g, g.Rows, g.Cols)
		resizeFails(t, g, 1, 7)
	}
	held(t, f, texts().frame())
}

// resizeFails asks for what may not be.
func resizeFails(t *testing.T, f api.Frame, rows, cols int) {
	t.Helper()
	if g, e := grids.Resize(f, rows, cols); !zero(g) || e != api.ErrArg {
		t.Errorf("Resize to %d, %d: %d cells, %v", rows, cols, len(g.Cells), e)
	}
}

// P6.4
func TestDiff(t *testing.T) {
	base := texts()
	f := base.frame()
	for _, g := range []glyph{{2, 0, 'a', api.Style{}}, {2, 1, ' ', loud}, {0, 0, 'a', loud}, {0, 1, kanji, loud}, {3, 4, emoji, api.Style{}}, {1, 11, 'q', api.Style{Fg: 1}}} {
		m := base
		m.put(g)
		h := m.frame()
		want := 0
		for i := range h.Cells {
			if h.Cells[i] != f.Cells[i] {
				want++
			}
		}
		diff(t, f, h, want)
		h.Row, h.Col = 0, 0
		diff(t, f, h, want)
		diff(t, h, h, 0)
	}
	// One style alone makes a cell unlike.
	for _, s := range allStyles()[1:] {
		m := model{rows: 2, cols: 8, glyphs: []glyph{{0, 3, ' ', s}}}
		diff(t, made(t, 2, 8), m.frame(), 1)
		m.glyphs[0].r = kanji
		diff(t, made(t, 2, 8), m.frame(), 2)
		other := m
		other.glyphs = []glyph{{0, 3, kanji, api.Style{}}}
		diff(t, other.frame(), m.frame(), 2)
	}
	all := made(t, 100, 200)
	full := copied(all)
	for i := range full.Cells {
		full.Cells[i].R = 'a'
	}
	diff(t, all, full, 20000)
	diff(t, f, made(t, 4, 12), 12+10+6+4)
	diff(t, made(t, 8, 10), made(t, 10, 8), -1)
	diff(t, made(t, 4, 12), made(t, 4, 13), -1)
	diff(t, made(t, 4, 12), made(t, 5, 12), -1)
	for _, g := range wrongs() {
		diff(t, f, g, -1)
		diff(t, g, g, -1)
	}
}

// diff holds Diff of two frames, either way round.
func diff(t *testing.T, a, b api.Frame, want int) {
	t.Helper()
	if n, m := grids.Diff(a, b), grids.Diff(b, a); n != want || m != want {
		t.Errorf("Diff: %d, and %d the other way round, not %d", n, m, want)
	}
}

// P6.4
func TestRows(t *testing.T) {
	m := model{rows: 3, cols: 8, row: 1, col: 1, glyphs: []glyph{
		{0, 0, 'a', loud}, {0, 1, 0xe9, api.Style{}}, {0, 2, kanji, loud}, {0, 5, emoji, api.Style{}}, {0, 7, 0xfffd, api.Style{}},
		{2, 6, kanji, loud}, {2, 0, 0x10ffff, loud},
	}}
	f := m.frame()
	want := []string{"a\u00e9\u65e5 \U0001f600\ufffd", "        ", "\U0010ffff     \u65e5"}
	if rows := grids.Rows(f); !slices.Equal(rows, want) {
		t.Errorf("%q, not %q", rows, want)
	}
	// A row is as many cells as there are columns.
	for _, row := range grids.Rows(texts().frame()) {
		if !codes.Valid(row) || widths.Text(row) != 12 {
			t.Errorf("%q: %d cells", row, widths.Text(row))
		}
	}
	for i, f := range wrongs() {
		if rows := grids.Rows(f); len(rows) != 0 {
			t.Errorf("%d: %q", i, rows)
		}
	}
	// The list is the caller's own.
	grids.Rows(f)[0] = "other"
	if rows := grids.Rows(f); !slices.Equal(rows, want) {
		t.Errorf("%q, not %q", rows, want)
	}
}

// P6.5: larger and smaller again is without loss, and so is smaller and larger again, where nothing was cut.
func TestThereAndBack(t *testing.T) {
	m := texts()
	for _, size := range [][2]int{{4, 12}, {5, 12}, {4, 13}, {100, 200}} {
		there, _ := grids.Resize(m.frame(), size[0], size[1])
		back, e := grids.Resize(there, 4, 12)
		if e != api.OK {
			t.Fatal(e)
		}
		held(t, back, m.frame())
	}
	small := model{rows: 5, cols: 12, row: 1, col: 7, glyphs: []glyph{{0, 6, kanji, loud}, {1, 0, 'a', loud}, {1, 7, 'b', api.Style{}}}}
	there, _ := grids.Resize(small.frame(), 2, 8)
	back, e := grids.Resize(there, 5, 12)
	if e != api.OK {
		t.Fatal(e)
	}
	held(t, back, small.frame())
}

// P6.5: Same, just if Diff is 0, and the cursors are one.
func TestSameAndDiff(t *testing.T) {
	var frames []api.Frame
	for _, g := range []glyph{{2, 0, 'a', api.Style{}}, {2, 0, 'a', loud}, {2, 0, ' ', api.Style{}}, {2, 0, kanji, loud}, {9, 9, 'a', loud}} {
		for _, cursor := range [][2]int{{0, 0}, {0, 1}, {1, 0}} {
			m := texts()
			m.put(g)
			m.row, m.col = cursor[0], cursor[1]
			frames = append(frames, m.frame(), m.resized(4, 13).frame())
		}
	}
	for _, a := range frames {
		for _, b := range frames {
			want := grids.Diff(a, b) == 0 && a.Row == b.Row && a.Col == b.Col
			if grids.Same(a, b) != want {
				t.Errorf("Same is not %v where Diff is %d", want, grids.Diff(a, b))
			}
		}
	}
}

// R1: frames of any numbers; R2: what else is asked makes no difference.
func TestAnything(t *testing.T) {
	frames := append(wrongs(), texts().frame())
	for i, f := range frames {
		f, again := f, copied(f)
		for _, n := range append([]int{0, 3, 12}, extremes...) {
			g := grids.Put(f, n, n, rune(n), api.Style{Fg: n})
			h, e := grids.Resize(f, n, 12)
			if i+1 < len(frames) && (!zero(g) || !zero(h) || e != api.ErrArg) {
				t.Errorf("%d: of a frame that may not be something is told", i)
			}
			grids.New(n, n)
			grids.Diff(f, g)
			grids.Same(f, h)
		}
		if !equal(f, again) || grids.Valid(f) != grids.Valid(again) || !slices.Equal(grids.Rows(f), grids.Rows(again)) {
			t.Errorf("%d is not what it was", i)
		}
	}
}
