package codes_test

import (
	"math"
	"slices"
	"strings"
	"testing"

	"limner/codes"
)

// What the document says of runes and bytes, written out once more without the library, to hold the package against.

func isRune(r rune) bool {
	return r >= 0 && r <= 0x10ffff && (r < 0xd800 || r > 0xdfff)
}

func bytesOf(r rune) string {
	low := func(shift int) byte { return 0x80 | byte(r>>shift)&0x3f }
	switch {
	case !isRune(r):
		return ""
	case r < 0x80:
		return string([]byte{byte(r)})
	case r < 0x800:
		return string([]byte{0xc0 | byte(r>>6), low(0)})
	case r < 0x10000:
		return string([]byte{0xe0 | byte(r>>12), low(6), low(0)})
	}
	return string([]byte{0xf0 | byte(r>>18), low(12), low(6), low(0)})
}

// unite is the only rune that may have these bytes.
func unite(s string) rune {
	first := []byte{0, 0x7f, 0x1f, 0x0f, 0x07}
	r := rune(s[0] & first[len(s)])
	for i := 1; i < len(s); i++ {
		r = r<<6 | rune(s[i]&0x3f)
	}
	return r
}

func nextOf(s string, at int) (rune, int, bool) {
	if at < 0 || at >= len(s) {
		return 0, 0, false
	}
	for n := 1; n <= 4 && at+n <= len(s); n++ {
		part := s[at : at+n]
		if r := unite(part); bytesOf(r) == part {
			return r, n, true
		}
	}
	return 0xfffd, 1, false
}

func startsOf(s string) []int {
	var l []int
	for at := 0; at < len(s); {
		l = append(l, at)
		_, n, _ := nextOf(s, at)
		at += n
	}
	return l
}

func backOf(s string, at int) (rune, int, bool) {
	if at <= 0 || at > len(s) {
		return 0, 0, false
	}
	l := startsOf(s[:at])
	return nextOf(s[:at], l[len(l)-1])
}

func validOf(s string) bool {
	for _, at := range startsOf(s) {
		if _, _, ok := nextOf(s, at); !ok {
			return false
		}
	}
	return true
}

// allRunes calls f with each rune there is.
func allRunes(f func(r rune)) {
	for r := rune(0); r <= 0x10ffff; r++ {
		if isRune(r) {
			f(r)
		}
	}
}

// texts calls f with each text of at most most of the bytes.
func texts(bytes string, most int, f func(s string)) {
	level := []string{""}
	for n := 0; n <= most; n++ {
		var longer []string
		for _, s := range level {
			f(s)
			for i := 0; n < most && i < len(bytes); i++ {
				longer = append(longer, s+bytes[i:i+1])
			}
		}
		level = longer
	}
}

// edges are the bytes around which what may follow changes.
const edges = "a\x7f\x80\x8f\x90\x9f\xa0\xbf\xc1\xc2\xdf\xe0\xe1\xed\xee\xef\xf0\xf1\xf4\xf5\xff"

// few of them make texts in which runes of all lengths stand one behind the other.
const few = "a\x80\xbd\xbf\xc3\xe0\xef\xf0\xf4"

// nowhere are numbers that are no places of any text here.
var nowhere = []int{math.MinInt, math.MinInt32, -5, -1, 1 << 20, math.MaxInt32, math.MaxInt}

func checkText(t *testing.T, s string) {
	t.Helper()
	for at := -1; at <= len(s)+1; at++ {
		r, n, ok := codes.Next(s, at)
		if wr, wn, wok := nextOf(s, at); r != wr || n != wn || ok != wok {
			t.Errorf("Next(%q, %d): %x %d %v, not %x %d %v", s, at, r, n, ok, wr, wn, wok)
		}
		r, n, ok = codes.Back(s, at)
		if wr, wn, wok := backOf(s, at); r != wr || n != wn || ok != wok {
			t.Errorf("Back(%q, %d): %x %d %v, not %x %d %v", s, at, r, n, ok, wr, wn, wok)
		}
	}
	want := startsOf(s)
	if l := codes.Starts(s); !slices.Equal(l, want) {
		t.Errorf("Starts(%q): %v, not %v", s, l, want)
	}
	if n := codes.Count(s); n != len(want) {
		t.Errorf("Count(%q): %d, not %d", s, n, len(want))
	}
	if ok := codes.Valid(s); ok != validOf(s) {
		t.Errorf("Valid(%q): %v", s, ok)
	}
}

// P1.1
func TestPutEdges(t *testing.T) {
	for _, x := range []struct {
		r    rune
		want string
	}{
		{0, "\x00"}, {'a', "a"}, {0x7f, "\x7f"},
		{0x80, "\xc2\x80"}, {0xe9, "\xc3\xa9"}, {0x7ff, "\xdf\xbf"},
		{0x800, "\xe0\xa0\x80"}, {0x20ac, "\xe2\x82\xac"}, {0xd7ff, "\xed\x9f\xbf"},
		{0xe000, "\xee\x80\x80"}, {0xfffd, "\xef\xbf\xbd"}, {0xffff, "\xef\xbf\xbf"},
		{0x10000, "\xf0\x90\x80\x80"}, {0x10ffff, "\xf4\x8f\xbf\xbf"},
		{0xd800, ""}, {0xdbff, ""}, {0xdc00, ""}, {0xdfff, ""},
		{0x110000, ""}, {-1, ""}, {math.MinInt32, ""}, {math.MaxInt32, ""},
	} {
		if s := codes.Put(x.r); s != x.want {
			t.Errorf("Put(%x): %q, not %q", x.r, s, x.want)
		}
	}
}

// P1.1
func TestPutAll(t *testing.T) {
	for r := rune(-0x1000); r <= 0x111000; r++ {
		if s := codes.Put(r); s != bytesOf(r) {
			t.Fatalf("Put(%x): %q, not %q", r, s, bytesOf(r))
		}
	}
}

// P1.2
func TestNext(t *testing.T) {
	type told struct {
		r  rune
		n  int
		ok bool
	}
	none, wrong := told{}, told{0xfffd, 1, false}
	for _, x := range []struct {
		s    string
		at   int
		want told
	}{
		{"a\xc3\xa9", 0, told{'a', 1, true}}, {"a\xc3\xa9", 1, told{0xe9, 2, true}},
		{"a\xc3\xa9", 2, wrong}, {"a\xc3\xa9", 3, none}, {"a\xc3\xa9", 4, none}, {"a\xc3\xa9", -1, none},
		{"", 0, none}, {"\x00", 0, told{0, 1, true}},
		{"\xef\xbf\xbd", 0, told{0xfffd, 3, true}}, {"\xef\xbf\xbd\xff", 3, wrong},
		{"\xf0\x9f\x98\x80!", 0, told{0x1f600, 4, true}}, {"\xf0\x9f\x98\x80!", 1, wrong},
		// cut short, too long, half of a pair, too great
		{"\xe2\x82", 0, wrong}, {"\xe2\x82a", 0, wrong}, {"\xc0\x80", 0, wrong}, {"\xe0\x9f\xbf", 0, wrong},
		{"\xf0\x8f\xbf\xbf", 0, wrong}, {"\xed\xa0\x80", 0, wrong}, {"\xf4\x90\x80\x80", 0, wrong}, {"\xff", 0, wrong},
	} {
		var got told
		if got.r, got.n, got.ok = codes.Next(x.s, x.at); got != x.want {
			t.Errorf("Next(%q, %d): %v, not %v", x.s, x.at, got, x.want)
		}
	}
}

// P1.3
func TestBack(t *testing.T) {
	type told struct {
		r  rune
		n  int
		ok bool
	}
	none, wrong := told{}, told{0xfffd, 1, false}
	for _, x := range []struct {
		s    string
		at   int
		want told
	}{
		{"a\xc3\xa9", 3, told{0xe9, 2, true}}, {"a\xc3\xa9", 2, wrong}, {"a\xc3\xa9", 1, told{'a', 1, true}},
		{"a\xc3\xa9", 0, none}, {"a\xc3\xa9", 4, none}, {"a\xc3\xa9", -1, none}, {"", 0, none},
		{"\xf0\x9f\x98\x80", 4, told{0x1f600, 4, true}}, {"\xf0\x9f\x98\x80", 3, wrong},
		{"\xef\xbf\xbd", 3, told{0xfffd, 3, true}}, {"\xc3\xa9\xa9", 3, wrong},
		{"\x80\x80\x80\x80\x80", 5, wrong}, {"\xc3\xa9\xc3\xa9\xc3\xa9", 6, told{0xe9, 2, true}},
	} {
		var got told
		if got.r, got.n, got.ok = codes.Back(x.s, x.at); got != x.want {
			t.Errorf("Back(%q, %d): %v, not %v", x.s, x.at, got, x.want)
		}
	}
}

// P1.3
func TestStarts(t *testing.T) {
	for _, x := range []struct {
		s     string
		want  []int
		valid bool
	}{
		{"", nil, true},
		{"a\xc3\xa9", []int{0, 1}, true},
		{"a\xc3\xa9\xff", []int{0, 1, 3}, false},
		{"\xef\xbf\xbd", []int{0}, true},
		{"\xe2\x82a", []int{0, 1, 2}, false},
		{"\xe6\x97\xa5\xf0\x9f\x98\x80\n", []int{0, 3, 7}, true},
	} {
		if l := codes.Starts(x.s); !slices.Equal(l, x.want) {
			t.Errorf("Starts(%q): %v, not %v", x.s, l, x.want)
		}
		if n := codes.Count(x.s); n != len(x.want) {
			t.Errorf("Count(%q): %d, not %d", x.s, n, len(x.want))
		}
		if ok := codes.Valid(x.s); ok != x.valid {
			t.Errorf("Valid(%q): %v", x.s, ok)
		}
	}
}

// P1.2, P1.3
func TestTexts(t *testing.T) {
	texts(edges, 3, func(s string) { checkText(t, s) })
	texts(few, 5, func(s string) { checkText(t, s) })
	for _, front := range []string{"\xf0\x90\x80", "\xf4\x8f\xbf", "\xef\xbf", "\xc3", "\xf0\x9f\x98\x80", "\xe6\x97\xa5"} {
		texts(few, 3, func(s string) { checkText(t, front+s) })
	}
}

// P1.4: each rune is read as it was put, whatever stands around it.
func TestRunesStand(t *testing.T) {
	around := []struct{ ahead, behind string }{
		{"", ""}, {"a", "a"}, {"\xe2\x82", "\xac"}, {"\xf0\x9f\x98", "\x80"}, {"\xff", "\xbf\xbf\xbf"}, {"\xc3", "\xf4"},
	}
	allRunes(func(r rune) {
		put := codes.Put(r)
		for _, x := range around {
			s := x.ahead + put + x.behind
			from, to := len(x.ahead), len(x.ahead)+len(put)
			if q, n, ok := codes.Next(s, from); q != r || n != len(put) || !ok {
				t.Fatalf("Next(%q, %d): %x %d %v", s, from, q, n, ok)
			}
			if q, n, ok := codes.Back(s, to); q != r || n != len(put) || !ok {
				t.Fatalf("Back(%q, %d): %x %d %v", s, to, q, n, ok)
			}
			if !slices.Contains(codes.Starts(s), from) {
				t.Fatalf("Starts(%q) is without %d", s, from)
			}
		}
	})
}

// P1.4: a text's parts are its bytes, in order, from the front and from the end.
func TestPartsAreBytes(t *testing.T) {
	texts(few, 4, func(s string) {
		var parts strings.Builder
		for _, at := range codes.Starts(s) {
			_, n, _ := codes.Next(s, at)
			parts.WriteString(s[at : at+n])
		}
		if parts.String() != s {
			t.Errorf("%q: the parts are %q", s, parts.String())
		}
		var back []int
		for at := len(s); at > 0; {
			_, n, _ := codes.Back(s, at)
			at -= n
			back = append(back, at)
		}
		slices.Reverse(back)
		if l := codes.Starts(s); !slices.Equal(l, back) {
			t.Errorf("%q: %v, from the end %v", s, l, back)
		}
	})
}

// P1.4: a text that is valid has as many parts behind another one as by itself.
func TestPartsOfBoth(t *testing.T) {
	valid := []string{"", "a", "\xc3\xa9", "\xe6\x97\xa5", "\xf0\x9f\x98\x80", "\xef\xbf\xbd", "a\xc3\xa9\xe6\x97\xa5", "\x00\x7f"}
	texts(edges, 3, func(s string) {
		for _, v := range valid {
			if n := codes.Count(s + v); n != codes.Count(s)+codes.Count(v) {
				t.Errorf("Count(%q): %d", s+v, n)
			}
		}
	})
	for _, v := range valid {
		if !codes.Valid(v) {
			t.Errorf("%q is valid", v)
		}
	}
}

// R1
func TestAnyArguments(t *testing.T) {
	all := []string{"", "a", "\xff", "a\xc3\xa9", strings.Repeat("\x80", 1<<16), strings.Repeat("\xf0\x9f\x98", 1<<16)}
	for _, s := range all {
		for _, at := range nowhere {
			if r, n, ok := codes.Next(s, at); r != 0 || n != 0 || ok {
				t.Error("Next", len(s), at, r, n, ok)
			}
			if r, n, ok := codes.Back(s, at); r != 0 || n != 0 || ok {
				t.Error("Back", len(s), at, r, n, ok)
			}
		}
		if n := codes.Count(s); n != len(codes.Starts(s)) {
			t.Error("Count", len(s), n)
		}
	}
}

// R2, R4
func TestListsAreTheCallers(t *testing.T) {
	s := "a\xc3\xa9\xff"
	l, other := codes.Starts(s), codes.Starts(s)
	for i := range l {
		l[i] = -1
	}
	_ = append(l, -1)
	want := []int{0, 1, 3}
	if again := codes.Starts(s); !slices.Equal(other, want) || !slices.Equal(again, want) {
		t.Error(other, again)
	}
}
