package parser_test

import (
	"maps"
	"math/rand"
	"slices"
	"strconv"
	"strings"
	"testing"

	"limner/parser"
)

// What the document says of a parser, written out once more, with all the bytes behind which it stands, to hold the package against.

func isRune(r rune) bool {
	return r >= 0 && r <= 0x10ffff && (r < 0xd800 || r > 0xdfff)
}

func bytesOf(r rune) string {
	low := func(shift int) byte { return 0x80 | byte(r>>shift)&0x3f }
	switch {
	case !isRune(r):
		return ""
	case r < 0x80:
		return string([]byte{byte(r)})
	case r < 0x800:
		return string([]byte{0xc0 | byte(r>>6), low(0)})
	case r < 0x10000:
		return string([]byte{0xe0 | byte(r>>12), low(6), low(0)})
	}
	return string([]byte{0xf0 | byte(r>>18), low(12), low(6), low(0)})
}

// runeOf is the rune whose bytes these are.
func runeOf(s string) (r rune, ok bool) {
	if len(s) > 4 {
		return 0, false
	}
	first := []byte{0, 0x7f, 0x1f, 0x0f, 0x07}
	r = rune(s[0] & first[len(s)])
	for i := 1; i < len(s); i++ {
		r = r<<6 | rune(s[i]&0x3f)
	}
	return r, bytesOf(r) == s
}

// beginnings are all beginnings of runes.
var beginnings = func() map[string]bool {
	l := map[string]bool{}
	// Of runes that are unlike in their last six bits alone all beginnings are the same, but for those of one byte, that have none.
	for r := rune(0); r <= 0x10ffff; r += 0x40 {
		s := bytesOf(r)
		for n := 1; n < len(s); n++ {
			l[s[:n]] = true
		}
	}
	return l
}()

// model is the bytes behind which a parser stands.
type model string

// The actions as the document names them.
func ofRune(r rune) parser.Action    { return parser.Action{Kind: parser.AcRune, R: r} }
func ofControl(b byte) parser.Action { return parser.Action{Kind: parser.AcControl, R: rune(b)} }
func ofEsc(b byte) parser.Action     { return parser.Action{Kind: parser.AcEsc, Final: b} }
func ofCSI(final byte, params ...int) parser.Action {
	return parser.Action{Kind: parser.AcCSI, Params: params, Final: final}
}

var ofInvalid = parser.Action{Kind: parser.AcInvalid}

func (m model) feed(b byte) (model, []parser.Action) {
	longer := m + model([]byte{b})
	switch {
	case m == "":
		return m.front(b)
	case m[0] != 0x1b:
		if r, ok := runeOf(string(longer)); ok {
			return "", []parser.Action{ofRune(r)}
		}
		if beginnings[string(longer)] {
			return longer, nil
		}
		next, l := model("").front(b)
		return next, slices.Insert(l, 0, ofInvalid)
	case b == 0x1b:
		return "\x1b", []parser.Action{ofInvalid}
	case b == 0x18 || b == 0x1a:
		return "", []parser.Action{ofInvalid}
	case b <= 0x1f:
		return m, []parser.Action{ofControl(b)}
	case m == "\x1b" && b == 0x5b:
		return longer, nil
	case m == "\x1b" && b >= 0x30 && b <= 0x7e:
		return "", []parser.Action{ofEsc(b)}
	case m != "\x1b" && b >= 0x20 && b <= 0x3f:
		return longer, nil
	case m != "\x1b" && b >= 0x40 && b <= 0x7e:
		if params, ok := paramsOf(string(m[2:])); ok {
			return "", []parser.Action{ofCSI(b, params...)}
		}
	}
	return "", []parser.Action{ofInvalid}
}

// front is what a byte asks for at the beginning.
func (m model) front(b byte) (model, []parser.Action) {
	s := string([]byte{b})
	switch {
	case b == 0x1b:
		return "\x1b", nil
	case b <= 0x1f || b == 0x7f:
		return "", []parser.Action{ofControl(b)}
	case b < 0x80:
		return "", []parser.Action{ofRune(rune(b))}
	case beginnings[s]:
		return model(s), nil
	}
	return "", []parser.Action{ofInvalid}
}

// paramsOf is the Params of a sequence's bytes, if it has any that may be.
func paramsOf(s string) (l []int, ok bool) {
	if s == "" {
		return nil, true
	}
	parts := strings.Split(s, "\x3b")
	if len(parts) > 16 {
		return nil, false
	}
	for _, part := range parts {
		if strings.Trim(part, "0123456789") != "" {
			return nil, false
		}
		l = append(l, numberOf(strings.TrimLeft(part, "0")))
	}
	return l, true
}

// numberOf is the number of digits, with none in front that makes no difference.
func numberOf(digits string) int {
	switch {
	case digits == "":
		return 0
	case len(digits) > 4:
		return 9999
	}
	n, _ := strconv.Atoi(digits)
	return n
}

// equal tells whether two actions are the same; a list may be nil or empty.
func equal(a, b parser.Action) bool {
	return a.Kind == b.Kind && a.R == b.R && a.Final == b.Final && slices.Equal(a.Params, b.Params)
}

// stands is where a parser stands behind bytes, and what they ask for.
func stands(p parser.Parser, s string) (parser.Parser, []parser.Action) {
	var all []parser.Action
	for i := range len(s) {
		q, l := parser.Feed(p, s[i])
		p, all = q, append(all, l...)
	}
	return p, all
}

// standsOf is the same of the model.
func standsOf(s string) (m model, all []parser.Action) {
	for i := range len(s) {
		next, l := m.feed(s[i])
		m, all = next, append(all, l...)
	}
	return m, all
}

// asks feeds bytes, from the beginning on, and holds what they ask for in all against what it is to be.
func asks(t *testing.T, s string, want ...parser.Action) parser.Parser {
	t.Helper()
	p, l := stands(parser.Parser{}, s)
	if !slices.EqualFunc(l, want, equal) {
		t.Errorf("%.200q: %v, not %v", s, l, want)
	}
	return p
}

// ends asks, and at the end of the bytes it is at the beginning.
func ends(t *testing.T, s string, want ...parser.Action) {
	t.Helper()
	if p := asks(t, s, want...); p != (parser.Parser{}) {
		t.Errorf("%.200q: it stands at %v, and not at the beginning", s, p)
	}
}

// step feeds one byte to both, and holds one against the other.
func step(t *testing.T, p parser.Parser, m model, b byte) (parser.Parser, model) {
	t.Helper()
	q, l := parser.Feed(p, b)
	next, want := m.feed(b)
	if !slices.EqualFunc(l, want, equal) {
		t.Fatalf("%q, %x: %v, not %v", m, b, l, want)
	}
	if len(l) > 2 {
		t.Fatalf("%q, %x: %d are asked for", m, b, len(l))
	}
	if (q == parser.Parser{}) != (next == "") {
		t.Fatalf("%q, %x: at %v, not %q", m, b, q, next)
	}
	if next == m && q != p {
		t.Fatalf("%q, %x: it does not stay at %v, but is at %v", m, b, p, q)
	}
	return q, next
}

// fronts are bytes behind which a parser stands in each way there is.
var fronts = []string{
	"", "\xc2", "\xdf", "\xe0", "\xe0\xa0", "\xe2", "\xe2\x82", "\xed", "\xed\x9f", "\xef\xbf",
	"\xf0", "\xf0\x90", "\xf0\x9f\x98", "\xf4", "\xf4\x8f", "\xf4\x8f\xbf",
	"\x1b", "\x1b\x07", "\x1b[", "\x1b[0", "\x1b[1", "\x1b[;", "\x1b[12;", "\x1b[1;2", "\x1b[00", "\x1b[999", "\x1b[9999", "\x1b[10000", "\x1b[1\x071",
	"\x1b[?", "\x1b[?1", "\x1b[ ", "\x1b[1:", "\x1b[1 ", "\x1b[1;<", "\x1b[;;;;;;;;;;;;;;", "\x1b[;;;;;;;;;;;;;;;", "\x1b[1;;;;;;;;;;;;;;;9", "\x1b[;;;;;;;;;;;;;;;;",
}

// edges are the bytes around which what is asked for changes.
const edges = "\x00\x06\x07\x08\x0a\x0d\x17\x18\x19\x1a\x1b\x1c\x1f\x20\x2f\x30\x31\x39\x3a\x3b\x3c\x3f\x40\x5a\x5b\x5c\x6d\x7e\x7f" +
	"\x80\x8f\x90\x9f\xa0\xbf\xc0\xc1\xc2\xc3\xdf\xe0\xe1\xec\xed\xee\xef\xf0\xf1\xf3\xf4\xf5\xff"

// The document's examples: P7.1, P7.2
func TestExamples(t *testing.T) {
	ends(t, "a\x07\xc3\xa9", ofRune('a'), ofControl(7), ofRune(0xe9))
	ends(t, "\x1b[1;;2H", ofCSI('H', 1, 0, 2))
	ends(t, "\x1b[m", ofCSI('m'))
	ends(t, "\x1b[?1h", ofInvalid)
	ends(t, "\x1bc", ofEsc('c'))
	ends(t, "\xe2\x82a", ofInvalid, ofRune('a'))
	ends(t, "\xff", ofInvalid)
	if p, q := asks(t, "\x1b\x1b", ofInvalid), asks(t, "\x1b"); p != q {
		t.Errorf("%v, and not behind an escape, %v", p, q)
	}
}

// The kinds are those of the document.
func TestKinds(t *testing.T) {
	l := []int{parser.AcNone, parser.AcRune, parser.AcControl, parser.AcCSI, parser.AcEsc, parser.AcInvalid}
	if !slices.Equal(l, []int{0, 1, 2, 3, 4, 5}) {
		t.Error(l)
	}
}

// P7.1: each byte at the beginning.
func TestFront(t *testing.T) {
	for b := range 0x100 {
		s := string([]byte{byte(b)})
		switch {
		case b == 0x1b, b >= 0xc2 && b <= 0xf4:
			if p := asks(t, s); p == (parser.Parser{}) {
				t.Errorf("%x: it stands at the beginning", b)
			}
		case b <= 0x1f, b == 0x7f:
			ends(t, s, ofControl(byte(b)))
		case b <= 0x7e:
			ends(t, s, ofRune(rune(b)))
		default:
			ends(t, s, ofInvalid)
		}
	}
}

// P7.1: each byte behind each thing that a parser may stand behind, and each byte behind that.
func TestBytes(t *testing.T) {
	for _, s := range fronts {
		p, _ := stands(parser.Parser{}, s)
		m, _ := standsOf(s)
		for a := range 0x100 {
			q, next := step(t, p, m, byte(a))
			for b := range 0x100 {
				step(t, q, next, byte(b))
			}
		}
	}
}

// P7.1, P7.3: all bytes around which something changes, three of them behind each thing.
func TestEdges(t *testing.T) {
	var walk func(p parser.Parser, m model, most int)
	walk = func(p parser.Parser, m model, most int) {
		for i := 0; most > 0 && i < len(edges); i++ {
			q, next := step(t, p, m, edges[i])
			walk(q, next, most-1)
		}
	}
	for _, s := range fronts {
		p, _ := stands(parser.Parser{}, s)
		m, _ := standsOf(s)
		walk(p, m, 3)
	}
}

// P7.1: each rune is told by the last of its bytes, and by no other one.
func TestRunes(t *testing.T) {
	for r := rune(0x80); r <= 0x10ffff; r++ {
		if !isRune(r) {
			continue
		}
		s := bytesOf(r)
		p, l := stands(parser.Parser{}, s[:len(s)-1])
		q, last := parser.Feed(p, s[len(s)-1])
		if len(l) != 0 || p == (parser.Parser{}) || q != (parser.Parser{}) || len(last) != 1 || !equal(last[0], ofRune(r)) {
			t.Fatalf("%x: %v, %v, and it stands at %v", r, l, last, q)
		}
	}
}

// P7.1: bytes of which no rune is made.
func TestNoRunes(t *testing.T) {
	three := []parser.Action{ofInvalid, ofInvalid, ofInvalid}
	four := append(slices.Clone(three), ofInvalid)
	ends(t, "\x80", ofInvalid)
	ends(t, "\xc0\x80", three[:2]...)
	ends(t, "\xc1\xbf", three[:2]...)
	ends(t, "\xe0\x9f\xbf", three...)
	ends(t, "\xed\xa0\x80", three...)
	ends(t, "\xed\xbf\xbf", three...)
	ends(t, "\xf0\x8f\xbf\xbf", four...)
	ends(t, "\xf4\x90\x80\x80", four...)
	ends(t, "\xf5\x80\x80\x80", four...)
	// All of a beginning is one that is none, however many bytes it has; what breaks it is as at the beginning.
	ends(t, "\xf0\x9f\x98a", ofInvalid, ofRune('a'))
	ends(t, "\xf0\x9f\x98\xff", three[:2]...)
	ends(t, "\xf0\x9f\x98\x07", ofInvalid, ofControl(7))
	ends(t, "\xf0\x9f\x98\x7f", ofInvalid, ofControl(0x7f))
	ends(t, "\xf0\x9f\x98\x18", ofInvalid, ofControl(0x18))
	ends(t, "\xf0\x9f\x98\xf0\x9f\x98\x80", ofInvalid, ofRune(0x1f600))
	ends(t, "\xe2\x82\x1b[2J", ofInvalid, ofCSI('J', 2))
	ends(t, "\xc3\xc3\xa9\xa9", ofInvalid, ofRune(0xe9), ofInvalid)
	// The rune that stands for what is none is one.
	ends(t, "\xef\xbf\xbd", ofRune(0xfffd))
}

// P7.1: each byte behind an escape.
func TestEscapes(t *testing.T) {
	escape := asks(t, "\x1b")
	for b := range 0x100 {
		s := "\x1b" + string([]byte{byte(b)})
		switch {
		case b == 0x5b:
			if p := asks(t, s); p == (parser.Parser{}) || p == escape {
				t.Errorf("%x: it is not behind a sequence", b)
			}
		case b == 0x1b:
			if p := asks(t, s, ofInvalid); p != escape {
				t.Errorf("%x: it is not behind an escape", b)
			}
		case b <= 0x1f && b != 0x18 && b != 0x1a:
			if p := asks(t, s, ofControl(byte(b))); p != escape {
				t.Errorf("%x: it is not where it was", b)
			}
			ends(t, s+"c", ofControl(byte(b)), ofEsc('c'))
		case b >= 0x30 && b <= 0x7e:
			ends(t, s, ofEsc(byte(b)))
		default:
			ends(t, s, ofInvalid)
		}
	}
}

// P7.1: each byte behind sequences: with Params, with none, and with none that may be.
func TestSequences(t *testing.T) {
	for _, x := range []struct {
		s   string
		csi func(final byte) parser.Action
	}{
		{"\x1b[", func(b byte) parser.Action { return ofCSI(b) }},
		{"\x1b[7;31", func(b byte) parser.Action { return ofCSI(b, 7, 31) }},
		{"\x1b[>4", func(byte) parser.Action { return ofInvalid }},
	} {
		before := asks(t, x.s)
		for b := range 0x100 {
			s := x.s + string([]byte{byte(b)})
			switch {
			case b >= 0x20 && b <= 0x3f:
				if p := asks(t, s); p == (parser.Parser{}) {
					t.Errorf("%q: it is at the beginning", s)
				}
			case b >= 0x40 && b <= 0x7e:
				ends(t, s, x.csi(byte(b)))
			case b == 0x1b:
				ends(t, s+"7", ofInvalid, ofEsc('7'))
			case b <= 0x1f && b != 0x18 && b != 0x1a:
				if p := asks(t, s, ofControl(byte(b))); p != before {
					t.Errorf("%q: it is not where it was", s)
				}
				ends(t, s+"H", ofControl(byte(b)), x.csi('H'))
			default:
				ends(t, s, ofInvalid)
			}
		}
	}
}

// P7.1: a control stands in the midst of a sequence, and makes no difference to it.
func TestControlsWithin(t *testing.T) {
	ends(t, "\x1b\x07[\x071\x07\x08;\x0d2\x07H", ofControl(7), ofControl(7), ofControl(7), ofControl(8), ofControl(13), ofControl(7), ofCSI('H', 1, 2))
	ends(t, "\x1b[1\x00\x002A", ofControl(0), ofControl(0), ofCSI('A', 12))
	ends(t, "\x1b[?\x071h", ofControl(7), ofInvalid)
	ends(t, "\x1b[1\x182A", ofInvalid, ofRune('2'), ofRune('A'))
	ends(t, "\x1b[1\x1a2A", ofInvalid, ofRune('2'), ofRune('A'))
	ends(t, "\x1b[1\x7f2A", ofInvalid, ofRune('2'), ofRune('A'))
	ends(t, "\x1b[1\x1b[2A", ofInvalid, ofCSI('A', 2))
	ends(t, "\x1b[1\xc3\xa9", ofInvalid, ofInvalid)
	ends(t, "\x1b\xc3\xa9", ofInvalid, ofInvalid)
}

// P7.2
func TestNumbers(t *testing.T) {
	for _, x := range []struct {
		digits string
		want   int
	}{
		{"0", 0}, {"00", 0}, {"000000000000", 0}, {"1", 1}, {"01", 1}, {"0000000000000000000010", 10}, {"42", 42}, {"1234567890", 9999},
		{"9998", 9998}, {"9999", 9999}, {"09999", 9999}, {"10000", 9999}, {"99990", 9999}, {"00010000", 9999}, {"12345", 9999},
		{"65536", 9999}, {"65537", 9999}, {"4294967296", 9999}, {"4294967297", 9999}, {"18446744073709551616", 9999}, {"18446744073709551617", 9999},
		{"9223372036854775807", 9999}, {"9223372036854775808", 9999}, {strings.Repeat("9", 1000), 9999}, {strings.Repeat("0", 1000) + "7", 7}, {"1" + strings.Repeat("0", 1000), 9999},
	} {
		ends(t, "\x1b["+x.digits+"G", ofCSI('G', x.want))
		ends(t, "\x1b["+x.digits+";G", ofCSI('G', x.want, 0))
		ends(t, "\x1b[;"+x.digits+";3G", ofCSI('G', 0, x.want, 3))
	}
	for n := range 10100 {
		ends(t, "\x1b["+strconv.Itoa(n)+"C", ofCSI('C', min(n, 9999)))
	}
}

// P7.2: so many parts, empty and not.
func TestParts(t *testing.T) {
	for n := 1; n <= 40; n++ {
		for _, part := range []string{"", "0", "7", "9999", "12345678"} {
			s := strings.Repeat(part+";", n-1) + part
			want := ofInvalid
			switch {
			case s == "":
				want = ofCSI('m')
			case n <= 16:
				want = ofCSI('m', slices.Repeat([]int{numberOf(strings.Trim(part, "0"))}, n)...)
			}
			ends(t, "\x1b["+s+"m", want)
		}
	}
	ends(t, "\x1b[;m", ofCSI('m', 0, 0))
	ends(t, "\x1b[1;2;3;4;5;6;7;8;9;10;11;12;13;14;15;16m", ofCSI('m', 1, 2, 3, 4, 5, 6, 7, 8, 9, 10, 11, 12, 13, 14, 15, 16))
	ends(t, "\x1b[1;2;3;4;5;6;7;8;9;10;11;12;13;14;15;16;m", ofInvalid)
	ends(t, "\x1b[1;2;3;4;5;6;7;8;9;10;11;12;13;14;15;16;17m", ofInvalid)
}

// P7.2: one byte that is no digit and no 3B, wherever it stands.
func TestWrongParams(t *testing.T) {
	for b := byte(0x20); b <= 0x3f; b++ {
		if b == 0x3b || b >= 0x30 && b <= 0x39 {
			continue
		}
		s := string([]byte{b})
		for _, params := range []string{s, s + "1", "1" + s, "1;2" + s, "1;" + s + "2", s + ";", ";" + s, "1;;2" + s + s, s + "1;2;3", strings.Repeat(";", 20) + s} {
			ends(t, "\x1b["+params+"p", ofInvalid)
			ends(t, "\x1b["+params+"p\x1b[1p", ofInvalid, ofCSI('p', 1))
		}
	}
}

// P7.1, R1: any number of bytes may stand in a sequence.
func TestLongSequences(t *testing.T) {
	const many = 1 << 20
	for _, x := range []struct {
		front, more string
		want        parser.Action
	}{
		{"", "1", ofCSI('A', 9999)}, {"", "0", ofCSI('A', 0)}, {"3;", "0", ofCSI('A', 3, 0)}, {"5;", "9", ofCSI('A', 5, 9999)}, {"", "01", ofCSI('A', 9999)},
		{"", ";", ofInvalid}, {"", "1;", ofInvalid}, {"", "?", ofInvalid}, {"", " ", ofInvalid}, {"?", "1", ofInvalid}, {"1;2;", "3;?", ofInvalid},
	} {
		ends(t, "\x1b["+x.front+strings.Repeat(x.more, many)+"A", x.want)
	}
}

// units are runes' bytes, controls, escapes and sequences, each with what it asks for.
func units() map[string]parser.Action {
	all := map[string]parser.Action{
		"\x1b[m": ofCSI('m'), "\x1b[;m": ofCSI('m', 0, 0), "\x1b[1;31;4m": ofCSI('m', 1, 31, 4), "\x1b[2J": ofCSI('J', 2), "\x1b[0012;20000~": ofCSI('~', 12, 9999),
		"\x1b[@": ofCSI('@'), "\x1b[[": ofCSI('['), "\x1b[5\\": ofCSI('\\', 5), "\x1b[?25l": ofInvalid, "\x1b[ q": ofInvalid, "\x1b[;;;;;;;;;;;;;;;;H": ofInvalid,
	}
	for b := byte(0); b <= 0x7f; b++ {
		s := string([]byte{b})
		switch {
		case b <= 0x1f && b != 0x1b || b == 0x7f:
			all[s] = ofControl(b)
		case b >= 0x20:
			all[s] = ofRune(rune(b))
		}
		if b >= 0x30 && b <= 0x7e && b != 0x5b {
			all["\x1b"+s] = ofEsc(b)
		}
	}
	for _, r := range []rune{0x80, 0x9b, 0xe9, 0x7ff, 0x800, 0x65e5, 0xd7ff, 0xe000, 0xfffd, 0xffff, 0x10000, 0x1f600, 0x10ffff} {
		all[bytesOf(r)] = ofRune(r)
	}
	return all
}

// P7.3: what is put one behind the other asks for just that.
func TestUnits(t *testing.T) {
	random := rand.New(rand.NewSource(7))
	all := units()
	keys := slices.Sorted(maps.Keys(all))
	for _, key := range keys {
		ends(t, key, all[key])
	}
	var p parser.Parser
	for range 20000 {
		key := keys[random.Intn(len(keys))]
		q, l := stands(p, key)
		if len(l) != 1 || !equal(l[0], all[key]) {
			t.Fatalf("%q: %v, not %v", key, l, all[key])
		}
		p = q
	}
}

// P7.3: what stood ahead of what leads to the beginning makes no difference to what follows.
func TestNothingIsLeft(t *testing.T) {
	ahead := []string{"", "x", "\xe2\x82", "\xf0\x9f\x98", "\x1b", "\x1b[", "\x1b[1;2", "\x1b[?", "\x1b[;;;;;;;;;;;;;;;;;;", "\xff\x1b\x1b[9"}
	for _, front := range ahead {
		for _, end := range []string{"\x1bc", "\x1b[A", "\x1b[1;2H", "\x1b[>c", "\x18", "\x1a", "\xff", "\x1b\x18", "\x1b[1\x7f"} {
			p, _ := stands(parser.Parser{}, front+end)
			if p != (parser.Parser{}) {
				t.Errorf("%q, %q: it stands at %v", front, end, p)
			}
		}
	}
}

// P7.3, R1: any bytes; each asks for at most two things.
func TestAnything(t *testing.T) {
	random := rand.New(rand.NewSource(73))
	for range 400 {
		var p parser.Parser
		var m model
		few := make([]byte, 2+random.Intn(8))
		for i := range few {
			few[i] = edges[random.Intn(len(edges))]
		}
		for range 500 {
			b := few[random.Intn(len(few))]
			if random.Intn(9) == 0 {
				b = byte(random.Intn(0x100))
			}
			p, m = step(t, p, m, b)
		}
	}
}

// R2, R4: a parser that was fed stays where it was, and tells the same again; lists are the caller's own.
func TestFedAgain(t *testing.T) {
	for _, s := range append([]string{"\x1b[1;2;3", "\x1b[4"}, fronts...) {
		p, _ := stands(parser.Parser{}, s)
		m, _ := standsOf(s)
		before := p
		for b := range 0x100 {
			q, l := parser.Feed(p, byte(b))
			other, kept := parser.Feed(p, byte(b))
			for i := range l {
				for j := range l[i].Params {
					l[i].Params[j] = -1
				}
				_ = append(l[i].Params, -1)
				l[i] = parser.Action{Kind: -1}
			}
			_ = append(l, parser.Action{Kind: -1})
			again, told := parser.Feed(p, byte(b))
			if p != before || q != other || q != again || !slices.EqualFunc(kept, told, equal) {
				t.Errorf("%q, %x: %v, and then %v", s, b, kept, told)
			}
			_, want := m.feed(byte(b))
			if !slices.EqualFunc(told, want, equal) {
				t.Errorf("%q, %x: %v, not %v", s, b, told, want)
			}
		}
	}
}

// Parsers can be compared: those that were told the same are one, and what is not the same is not.
func TestCompared(t *testing.T) {
	parsers := map[parser.Parser]string{}
	for _, s := range []string{"", "\xc3", "\xe2", "\xe2\x82", "\xf0\x9f", "\x1b", "\x1b[", "\x1b[1", "\x1b[;", "\x1b[?", "\x1b[1;"} {
		p, _ := stands(parser.Parser{}, s)
		if q, _ := stands(parser.Parser{}, "ab\x1bc"+s); p != q {
			t.Errorf("%q: %v, and %v", s, p, q)
		}
		if other, ok := parsers[p]; ok {
			t.Errorf("%q and %q: both %v", s, other, p)
		}
		parsers[p] = s
	}
	if parsers[parser.Parser{}] != "" {
		t.Errorf("%q stands at the beginning", parsers[parser.Parser{}])
	}
}
