package undo_test

import (
	"math"
	"slices"
	"strconv"
	"testing"

	"limner/api"
	"limner/pieces"
	"limner/undo"
)

// state is a text's bytes and a cursor.
type state struct {
	text   string
	cursor int
}

// model is what the document says of undo, in lists, the front of each as the document names it.
type model struct {
	was    []state // the oldest one first
	now    state
	undone []state // the one that was undone last first
	open   int
}

func (m *model) do(s state, group int) {
	if group < 1 || group != m.open {
		m.was = append(m.was, m.now)
	}
	if len(m.was) > 100 {
		m.was = m.was[1:]
	}
	m.now, m.undone, m.open = s, nil, group
}

func (m *model) undo() (s state, ok bool) {
	if len(m.was) == 0 {
		return state{}, false
	}
	m.undone = slices.Insert(m.undone, 0, m.now)
	m.now, m.was = m.was[len(m.was)-1], m.was[:len(m.was)-1]
	m.open = 0
	return m.now, true
}

func (m *model) redo() (s state, ok bool) {
	if len(m.undone) == 0 {
		return state{}, false
	}
	m.was = append(m.was, m.now)
	m.now, m.undone = m.undone[0], m.undone[1:]
	m.open = 0
	return m.now, true
}

// text is a text of these bytes.
func text(t *testing.T, s string) *pieces.Text {
	t.Helper()
	x, e := pieces.New(s)
	if e != api.OK {
		t.Fatal(e)
	}
	return x
}

// begun is an undo that begins with a text of these bytes.
func begun(t *testing.T, s string, cursor int) *undo.Undo {
	t.Helper()
	u := undo.New(text(t, s), cursor)
	if u == nil {
		t.Fatalf("New(%q): nil", s)
	}
	return u
}

// do is a Do that must be taken.
func do(t *testing.T, u *undo.Undo, s string, cursor, group int) {
	t.Helper()
	if !u.Do(text(t, s), cursor, group) {
		t.Errorf("Do(%q, %d, %d): false", s, cursor, group)
	}
}

// told holds what Undo and Redo tell against a state, or against nothing.
func told(t *testing.T, x *pieces.Text, cursor int, ok bool, want state, wantOK bool) {
	t.Helper()
	switch {
	case !wantOK && (x != nil || cursor != 0 || ok):
		t.Errorf("%q, %d, %v, where there is nothing", x.String(), cursor, ok)
	case wantOK && (x == nil || x.String() != want.text || cursor != want.cursor || !ok):
		t.Errorf("%q, %d, %v, not %v", x.String(), cursor, ok, want)
	}
}

// back is an Undo that must tell this state.
func back(t *testing.T, u *undo.Undo, s string, cursor int) {
	t.Helper()
	x, c, ok := u.Undo()
	told(t, x, c, ok, state{s, cursor}, true)
}

// forth is a Redo that must tell this state.
func forth(t *testing.T, u *undo.Undo, s string, cursor int) {
	t.Helper()
	x, c, ok := u.Redo()
	told(t, x, c, ok, state{s, cursor}, true)
}

// noBack is an Undo where no state was.
func noBack(t *testing.T, u *undo.Undo) {
	t.Helper()
	x, c, ok := u.Undo()
	told(t, x, c, ok, state{}, false)
}

// noForth is a Redo where none was undone.
func noForth(t *testing.T, u *undo.Undo) {
	t.Helper()
	x, c, ok := u.Redo()
	told(t, x, c, ok, state{}, false)
}

// now holds the state that is now, and how many were and were undone.
func now(t *testing.T, u *undo.Undo, s string, cursor, wantBack, wantForth int) {
	t.Helper()
	x, c := u.Now()
	told(t, x, c, x != nil, state{s, cursor}, true)
	if b, f := u.Steps(); b != wantBack || f != wantForth {
		t.Errorf("Steps: %d, %d, not %d, %d", b, f, wantBack, wantForth)
	}
}

// extremes are cursors and groups far from all others.
var extremes = []int{math.MinInt, math.MinInt + 1, math.MinInt32, -1, 0, 1, math.MaxInt32, math.MaxInt - 1, math.MaxInt}

// The document's examples: P5.1, P5.2, P5.3
func TestExamples(t *testing.T) {
	u := begun(t, "a", 0)
	do(t, u, "b", 1, 0)
	back(t, u, "a", 0)
	forth(t, u, "b", 1)
	noForth(t, u)

	u = begun(t, "a", 0)
	do(t, u, "b", 1, 5)
	do(t, u, "c", 2, 5)
	now(t, u, "c", 2, 1, 0)
	back(t, u, "a", 0)
	do(t, u, "d", 3, 5)
	now(t, u, "d", 3, 1, 0)
}

// P5.1
func TestNew(t *testing.T) {
	for _, s := range []string{"", "a", "a\nb", "\xff"} {
		for _, cursor := range extremes {
			u := begun(t, s, cursor)
			now(t, u, s, cursor, 0, 0)
			noBack(t, u)
			noForth(t, u)
			now(t, u, s, cursor, 0, 0)
		}
	}
	for _, cursor := range extremes {
		if u := undo.New(nil, cursor); u != nil {
			t.Errorf("New(nil, %d) is one", cursor)
		}
	}
}

// P5.1: the cursor is that of the state that is now, wherever that goes.
func TestMove(t *testing.T) {
	u := begun(t, "a", 0)
	for _, cursor := range extremes {
		u.Move(cursor)
		now(t, u, "a", cursor, 0, 0)
	}
	u.Move(7)
	do(t, u, "b", 1, 0)
	u.Move(8)
	now(t, u, "b", 8, 1, 0)
	back(t, u, "a", 7)
	u.Move(9)
	now(t, u, "a", 9, 0, 1)
	forth(t, u, "b", 8)
	back(t, u, "a", 9)
}

// P5.2: changes of one group, one behind the other.
func TestGroups(t *testing.T) {
	for _, group := range []int{1, 2, 5, math.MaxInt} {
		u := begun(t, "a", 0)
		do(t, u, "b", 1, group)
		do(t, u, "c", 2, group)
		do(t, u, "d", 3, group)
		now(t, u, "d", 3, 1, 0)
		back(t, u, "a", 0)
		forth(t, u, "d", 3)
		// Behind a Redo it is not open any more.
		do(t, u, "e", 4, group)
		now(t, u, "e", 4, 2, 0)
	}
	// 0 and what is below is no group.
	for _, group := range []int{0, -1, -5, math.MinInt} {
		u := begun(t, "a", 0)
		do(t, u, "b", 1, group)
		do(t, u, "c", 2, group)
		now(t, u, "c", 2, 2, 0)
		back(t, u, "b", 1)
		back(t, u, "a", 0)
		noBack(t, u)
	}
	// Another change between them ends a group.
	for _, other := range []int{-5, 0, 1, 4, 6} {
		u := begun(t, "a", 0)
		do(t, u, "b", 1, 5)
		do(t, u, "c", 2, other)
		do(t, u, "d", 3, 5)
		now(t, u, "d", 3, 3, 0)
		back(t, u, "c", 2)
	}
}

// P5.1, P5.2: what changes nothing, or the cursor alone, leaves it open.
func TestStaysOpen(t *testing.T) {
	for name, between := range map[string]func(u *undo.Undo){
		"Move":        func(u *undo.Undo) { u.Move(9) },
		"Redo":        func(u *undo.Undo) { noForth(t, u) },
		"Do of nil":   func(u *undo.Undo) { u.Do(nil, 1, 0) },
		"Now, Steps":  func(u *undo.Undo) { u.Now(); u.Steps() },
		"two of them": func(u *undo.Undo) { u.Do(nil, 1, 6); u.Move(-1) },
	} {
		u := begun(t, "a", 0)
		do(t, u, "b", 1, 5)
		between(u)
		do(t, u, "c", 2, 5)
		if b, f := u.Steps(); b != 1 || f != 0 {
			t.Errorf("%s: %d, %d", name, b, f)
		}
		back(t, u, "a", 0)
	}
	// An Undo closes it, even where it is done again.
	u := begun(t, "a", 0)
	do(t, u, "b", 1, 5)
	back(t, u, "a", 0)
	forth(t, u, "b", 1)
	noForth(t, u)
	do(t, u, "c", 2, 5)
	now(t, u, "c", 2, 2, 0)
	// An Undo where no state was changes nothing, and the group that was is closed all the same.
	back(t, u, "b", 1)
	back(t, u, "a", 0)
	noBack(t, u)
	do(t, u, "d", 3, 5)
	now(t, u, "d", 3, 1, 0)
}

// P5.2: a change that is not taken changes nothing, and one that is leaves nothing undone.
func TestDo(t *testing.T) {
	u := begun(t, "a", 0)
	do(t, u, "b", 1, 5)
	do(t, u, "c", 2, 0)
	back(t, u, "b", 1)
	for _, group := range extremes {
		if u.Do(nil, 3, group) {
			t.Errorf("Do(nil, 3, %d): true", group)
		}
		now(t, u, "b", 1, 1, 1)
	}
	do(t, u, "d", 3, 0)
	now(t, u, "d", 3, 2, 0)
	noForth(t, u)
	back(t, u, "b", 1)
	back(t, u, "a", 0)
	noBack(t, u)
	// The same text and cursor once more is a change, too.
	do(t, u, "a", 0, 0)
	now(t, u, "a", 0, 1, 0)
	for _, cursor := range extremes {
		do(t, u, "e", cursor, 9)
		now(t, u, "e", cursor, 2, 0)
	}
}

// P5.2, P5.5: of more states than may be kept the oldest ones are dropped.
func TestMost(t *testing.T) {
	for _, changes := range []int{api.MaxUndo - 1, api.MaxUndo, api.MaxUndo + 1, api.MaxUndo + 2, 3 * api.MaxUndo} {
		u := begun(t, "0", 0)
		for i := 1; i <= changes; i++ {
			do(t, u, strconv.Itoa(i), i, 0)
			now(t, u, strconv.Itoa(i), i, min(i, api.MaxUndo), 0)
		}
		// A group that is open takes no room.
		do(t, u, "x", 7, 3)
		do(t, u, "y", 8, 3)
		do(t, u, "z", 9, 3)
		kept := min(changes+1, api.MaxUndo)
		now(t, u, "z", 9, kept, 0)
		for i := range kept {
			back(t, u, strconv.Itoa(changes-i), changes-i)
		}
		noBack(t, u)
		oldest := changes + 1 - kept
		now(t, u, strconv.Itoa(oldest), oldest, 0, kept)
		for i := 1; i < kept; i++ {
			forth(t, u, strconv.Itoa(oldest+i), oldest+i)
		}
		forth(t, u, "z", 9)
		noForth(t, u)
		now(t, u, "z", 9, kept, 0)
	}
}

// P5.3
func TestUndoAndRedo(t *testing.T) {
	u := begun(t, "a", 0)
	do(t, u, "b", 1, 0)
	do(t, u, "c", 2, 0)
	do(t, u, "d", 3, 0)
	back(t, u, "c", 2)
	now(t, u, "c", 2, 2, 1)
	back(t, u, "b", 1)
	now(t, u, "b", 1, 1, 2)
	forth(t, u, "c", 2)
	now(t, u, "c", 2, 2, 1)
	back(t, u, "b", 1)
	back(t, u, "a", 0)
	now(t, u, "a", 0, 0, 3)
	noBack(t, u)
	forth(t, u, "b", 1)
	forth(t, u, "c", 2)
	forth(t, u, "d", 3)
	now(t, u, "d", 3, 3, 0)
	noForth(t, u)
	now(t, u, "d", 3, 3, 0)
}

// P5.4, R1, R3
func TestNone(t *testing.T) {
	for _, u := range []*undo.Undo{nil, {}, new(undo.Undo)} {
		for _, n := range extremes {
			u.Move(n)
			for _, x := range []*pieces.Text{nil, {}, text(t, ""), text(t, "a")} {
				if u.Do(x, n, n) {
					t.Errorf("Do(_, %d, %d): true", n, n)
				}
			}
			noBack(t, u)
			noForth(t, u)
			x, cursor := u.Now()
			told(t, x, cursor, false, state{}, false)
			if b, f := u.Steps(); b != 0 || f != 0 {
				t.Errorf("Steps: %d, %d", b, f)
			}
		}
	}
}

// P5.1, P5.2, R1: a text that is not nil is one, though pieces did not make it.
func TestTextThatIsNone(t *testing.T) {
	u := undo.New(new(pieces.Text), 3)
	now(t, u, "", 3, 0, 0)
	if !u.Do(new(pieces.Text), 4, 0) {
		t.Error("Do: false")
	}
	now(t, u, "", 4, 1, 0)
	back(t, u, "", 3)
	forth(t, u, "", 4)
}

// call is one of the calls, with a number for those that take one.
type call struct {
	name string
	n    int
}

// calls are all that make a difference.
var calls = []call{{"do", 0}, {"do", 5}, {"do", 6}, {"do", -5}, {"nil", 5}, {"move", 0}, {"undo", 0}, {"redo", 0}}

// tell tells an undo and the model one call, and holds them against each other; at is a number that no other call had.
func tell(t *testing.T, u *undo.Undo, m *model, c call, at int) {
	t.Helper()
	switch c.name {
	case "do":
		do(t, u, strconv.Itoa(at), at, c.n)
		m.do(state{strconv.Itoa(at), at}, c.n)
	case "nil":
		if u.Do(nil, at, c.n) {
			t.Error("Do of nil: true")
		}
	case "move":
		u.Move(at)
		m.now.cursor = at
	case "undo":
		x, cursor, ok := u.Undo()
		want, wantOK := m.undo()
		told(t, x, cursor, ok, want, wantOK)
	case "redo":
		x, cursor, ok := u.Redo()
		want, wantOK := m.redo()
		told(t, x, cursor, ok, want, wantOK)
	}
	now(t, u, m.now.text, m.now.cursor, len(m.was), len(m.undone))
}

// ends leads back as far as can be, forth, and back again.
func ends(t *testing.T, u *undo.Undo, m *model) {
	t.Helper()
	for _, name := range []string{"undo", "redo", "undo"} {
		for range len(m.was) + len(m.undone) + 1 {
			tell(t, u, m, call{name, 0}, 0)
		}
	}
}

// P5.1, P5.2, P5.3, P5.5: all short runs of calls.
func TestAllRuns(t *testing.T) {
	const most = 5
	var run func(l []call)
	run = func(l []call) {
		u, m := begun(t, "0", 0), &model{now: state{"0", 0}}
		for i, c := range l {
			tell(t, u, m, c, i+1)
		}
		ends(t, u, m)
		if t.Failed() {
			t.Fatal(l)
		}
		if len(l) == most {
			return
		}
		for _, c := range calls {
			run(append(slices.Clip(l), c))
		}
	}
	run(nil)
}

// P5.2, P5.3, P5.5: long runs, in which states are dropped, some with many an Undo and some with few.
func TestLongRuns(t *testing.T) {
	for seed := range uint32(8) {
		u, m := begun(t, "0", 0), &model{now: state{"0", 0}}
		x := seed
		for i := range 3000 {
			x = x*1664525 + 1013904223
			c := calls[x>>24%8]
			if c.name == "undo" && x>>16%8 < seed {
				c = calls[x>>8%4]
			}
			tell(t, u, m, c, i+1)
		}
		ends(t, u, m)
		if t.Failed() {
			t.Fatal(seed)
		}
	}
}

// P5.5: Undo and Redo lead back to each other.
func TestLeadBack(t *testing.T) {
	u := begun(t, "a", 4)
	do(t, u, "b", 3, 5)
	do(t, u, "c", 2, 5)
	do(t, u, "d", 1, 0)
	for range 3 {
		back(t, u, "c", 2)
		forth(t, u, "d", 1)
		now(t, u, "d", 1, 2, 0)
	}
	back(t, u, "c", 2)
	for range 3 {
		back(t, u, "a", 4)
		forth(t, u, "c", 2)
		now(t, u, "c", 2, 1, 1)
	}
}

// R2, R4: one undo has nothing to do with another one of the same text, and texts stay as they were.
func TestApart(t *testing.T) {
	a, b, c := text(t, "a"), text(t, "b"), text(t, "c")
	u, v := undo.New(a, 0), undo.New(a, 0)
	u.Do(b, 1, 5)
	v.Do(c, 2, 5)
	u.Do(c, 3, 5)
	now(t, u, "c", 3, 1, 0)
	now(t, v, "c", 2, 1, 0)
	back(t, u, "a", 0)
	v.Move(7)
	now(t, u, "a", 0, 0, 1)
	now(t, v, "c", 7, 1, 0)
	// What comes of a text that was told is another one.
	x, _ := u.Now()
	if _, e := x.Insert(1, "z"); e != api.OK {
		t.Error(e)
	}
	now(t, u, "a", 0, 0, 1)
	for _, y := range []struct {
		text *pieces.Text
		want string
	}{{a, "a"}, {b, "b"}, {c, "c"}} {
		if y.text.String() != y.want {
			t.Errorf("%q, not %q", y.text.String(), y.want)
		}
	}
}

// R2: an undo that was copied as a Go value goes its own way.
func TestCopies(t *testing.T) {
	for changes := range 2*api.MaxUndo + 1 {
		u := begun(t, "0", 0)
		for i := 1; i <= changes; i++ {
			do(t, u, strconv.Itoa(i), i, 0)
		}
		v := *u
		u.Move(-1)
		v.Move(-2)
		do(t, u, "u", 1, 0)
		do(t, &v, "v", 2, 0)
		last := strconv.Itoa(changes)
		back(t, u, last, -1)
		back(t, &v, last, -2)
		forth(t, u, "u", 1)
		forth(t, &v, "v", 2)
	}
}
