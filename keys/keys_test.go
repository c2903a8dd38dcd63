package keys_test

import (
	"math/rand"
	"slices"
	"strings"
	"testing"

	"limner/api"
	"limner/keys"
	"limner/widths"
)

// What the document says of a decoder, written out once more: not by what waits, but by what all that was fed is from its front, to hold the package against.

// pause stands among the bytes that are fed where a Tick is.
const pause = -1

// fed is bytes and pauses.
type fed []int

// of is the bytes of a text, and the bytes and pauses behind it.
func of(s string, l ...int) fed {
	var f fed
	for i := range len(s) {
		f = append(f, int(s[i]))
	}
	return append(f, l...)
}

func bytesOf(r rune) string {
	low := func(shift int) byte { return 0x80 | byte(r>>shift)&0x3f }
	switch {
	case r < 0x80:
		return string([]byte{byte(r)})
	case r < 0x800:
		return string([]byte{0xc0 | byte(r>>6), low(0)})
	case r < 0x10000:
		return string([]byte{0xe0 | byte(r>>12), low(6), low(0)})
	}
	return string([]byte{0xf0 | byte(r>>18), low(12), low(6), low(0)})
}

// eachRune calls f with each rune of more than one byte.
func eachRune(f func(r rune)) {
	for r := rune(0x80); r <= 0x10ffff; r++ {
		if r < 0xd800 || r > 0xdfff {
			f(r)
		}
	}
}

// beginnings are all beginnings of runes.
var beginnings = func() map[string]bool {
	l := map[string]bool{}
	last := ""
	eachRune(func(r rune) {
		s := bytesOf(r)
		// Of most runes the beginnings are those of the one ahead of it.
		if s = s[:len(s)-1]; s == last {
			return
		}
		last = s
		for n := 1; n <= len(s); n++ {
			l[s[:n]] = true
		}
	})
	return l
}()

// runeOf is the rune whose bytes these are.
func runeOf(s string) (r rune, ok bool) {
	if s == "" || len(s) > 4 {
		return 0, false
	}
	first := []byte{0, 0x7f, 0x1f, 0x0f, 0x07}
	r = rune(s[0] & first[len(s)])
	for i := 1; i < len(s); i++ {
		r = r<<6 | rune(s[i]&0x3f)
	}
	return r, r <= 0x10ffff && (r < 0xd800 || r > 0xdfff) && bytesOf(r) == s
}

// The keys as the document names them.
func ofKind(kind int) api.Key           { return api.Key{Kind: kind} }
func ofSign(kind int, r rune) api.Key   { return api.Key{Kind: kind, R: r} }
func ofText(kind int, s string) api.Key { return api.Key{Kind: kind, Text: s} }
func ofInvalid(s string) api.Key        { return ofText(api.KeyInvalid, s) }

// signs are those of the controls, from 0 on.
const signs = "@abcdefghijklmnopqrstuvwxyz[\\]^_"

// ofByte is the key of a byte that is one by itself.
func ofByte(b byte) api.Key {
	switch {
	case b == 0x0d || b == 0x0a:
		return ofKind(api.KeyEnter)
	case b == 0x09:
		return ofKind(api.KeyTab)
	case b == 0x08 || b == 0x7f:
		return ofKind(api.KeyBack)
	case b < 0x20:
		return ofSign(api.KeyCtrl, rune(signs[b]))
	case b < 0x80:
		return ofSign(api.KeyRune, rune(b))
	}
	return ofInvalid(string([]byte{b}))
}

// named are the keys that have a text of their own, behind an escape.
var named = map[string]int{
	"OA": api.KeyUp, "OB": api.KeyDown, "OC": api.KeyRight, "OD": api.KeyLeft, "OH": api.KeyHome, "OF": api.KeyEnd,
	"[A": api.KeyUp, "[B": api.KeyDown, "[C": api.KeyRight, "[D": api.KeyLeft, "[H": api.KeyHome, "[F": api.KeyEnd,
	"[1~": api.KeyHome, "[7~": api.KeyHome, "[4~": api.KeyEnd, "[8~": api.KeyEnd, "[3~": api.KeyDelete,
}

const (
	pasteStart = "\x1b[200~"
	pasteEnd   = "\x1b[201~"
)

// within tells whether all bytes of a text are from one to another one.
func within(s string, from, to byte) bool {
	for i := range len(s) {
		if s[i] < from || s[i] > to {
			return false
		}
	}
	return true
}

// waits tells whether bytes are of a key that is not complete.
func waits(s string) bool {
	behind, alt := strings.CutPrefix(s, "\x1b")
	if !alt {
		return beginnings[s]
	}
	sequence, ok := strings.CutPrefix(behind, "[")
	return behind == "" || behind == "O" || beginnings[behind] || ok && within(sequence, 0x20, 0x3f)
}

// complete is the key that these bytes are, of which all but the last one wait.
func complete(s string) (k api.Key, ok bool) {
	last := s[len(s)-1]
	behind, alt := strings.CutPrefix(s, "\x1b")
	r, isRune := runeOf(behind)
	switch {
	case waits(s):
		return api.Key{}, false
	case len(s) == 1:
		return ofByte(last), true
	case !alt:
		return ofSign(api.KeyRune, r), isRune
	case isRune && last >= 0x20 && last != 0x7f:
		return ofSign(api.KeyAlt, r), true
	case len(s) > 2 && (s[1] == 'O' || s[1] == '[') && last >= 0x20 && last <= 0x7e:
		if kind, ok := named[behind]; ok {
			return ofKind(kind), true
		}
		return ofInvalid(s), true
	}
	return api.Key{}, false
}

// broken is the key of bytes that waited, when they are broken off.
func broken(s string) api.Key {
	if s == "\x1b" {
		return ofKind(api.KeyEsc)
	}
	return ofInvalid(s)
}

// clean is what is taken of a text that is pasted.
func clean(s string) string {
	return strings.Map(func(r rune) rune {
		switch {
		case r == 0x0d:
			return 0x0a
		case r != 0x0a && r != 0x09 && widths.Of(r) == 0:
			return -1
		}
		return r
	}, strings.ToValidUTF8(s, ""))
}

// text is the bytes ahead of the first pause.
func (f fed) text() string {
	var b []byte
	for _, x := range f {
		if x == pause {
			break
		}
		b = append(b, byte(x))
	}
	return string(b)
}

// bytes are all bytes, without the pauses.
func (f fed) bytes() string {
	var b []byte
	for _, x := range f {
		if x != pause {
			b = append(b, byte(x))
		}
	}
	return string(b)
}

// first is the key that stands at the front, and what stands behind it; false: it is not complete.
func (f fed) first() (k api.Key, behind fed, ok bool) {
	s := f.text()
	for n := 1; n <= len(s); n++ {
		if s[:n] == pasteStart {
			return f[n:].paste()
		}
		if k, ok := complete(s[:n]); ok {
			return k, f[n:], true
		}
		if !waits(s[:n]) {
			return broken(s[:n-1]), f[n-1:], true
		}
	}
	if len(s) < len(f) {
		return broken(s), f[len(s):], true
	}
	return api.Key{}, f, false
}

// paste is the paste whose bytes stand at the front.
func (f fed) paste() (k api.Key, behind fed, ok bool) {
	for n := range len(f) + 1 {
		if s, ok := strings.CutSuffix(f[:n].bytes(), pasteEnd); ok {
			return ofText(api.KeyPaste, clean(s)), f[n:], true
		}
	}
	return api.Key{}, f, false
}

// keys are all keys of what was fed, and whether more waits.
func (f fed) keys() (l []api.Key, waiting bool) {
	for len(f) > 0 {
		if f[0] == pause {
			f = f[1:]
			continue
		}
		k, behind, ok := f.first()
		if !ok {
			return l, true
		}
		l, f = append(l, k), behind
	}
	return l, false
}

// feed feeds a byte or a pause.
func feed(d *keys.Decoder, x int) []api.Key {
	if x == pause {
		return d.Tick()
	}
	return d.Feed(byte(x))
}

// feedAll feeds all of it, and tells all keys.
func feedAll(d *keys.Decoder, f fed) []api.Key {
	var l []api.Key
	for _, x := range f {
		l = append(l, feed(d, x)...)
	}
	return l
}

// held feeds a new decoder, and holds it against the document behind each byte and pause.
func held(t *testing.T, f fed) {
	t.Helper()
	d, before := keys.New(), 0
	for n := range len(f) + 1 {
		want, waiting := f[:n].keys()
		if n > 0 {
			if l := feed(d, f[n-1]); !slices.Equal(l, want[before:]) {
				t.Fatalf("%x: %#v, not %#v", []int(f[:n]), l, want[before:])
			}
		}
		if d.Waiting() != waiting {
			t.Fatalf("%x: Waiting %v", []int(f[:n]), d.Waiting())
		}
		before = len(want)
	}
}

// told holds the keys of a text against those that are written out.
func told(t *testing.T, f fed, want ...api.Key) {
	t.Helper()
	held(t, f)
	if l := feedAll(keys.New(), f); !slices.Equal(l, want) {
		t.Errorf("%x: %#v, not %#v", []int(f), l, want)
	}
}

// fronts are bytes of all kinds that wait.
var fronts = []string{
	"", "\xc2", "\xc3", "\xdf", "\xe0", "\xe0\xa0", "\xe2", "\xe2\x82", "\xed", "\xed\x9f", "\xef", "\xef\xbf", "\xf0", "\xf0\x90", "\xf0\x9f\x98", "\xf4", "\xf4\x8f", "\xf4\x8f\xbf",
	"\x1b", "\x1bO", "\x1b[", "\x1b[1", "\x1b[3", "\x1b[20", "\x1b[200", "\x1b[201", "\x1b[0200", "\x1b[ ", "\x1b[?", "\x1b[1;5", "\x1b[<0;1;2",
	"\x1b\xc3", "\x1b\xe0", "\x1b\xe2\x82", "\x1b\xed", "\x1b\xf0", "\x1b\xf0\x9f\x98", "\x1b\xf4",
	pasteStart, pasteStart + "a", pasteStart + "\xe2\x82", pasteStart + "\x1b", pasteStart + "\x1b[", pasteStart + "\x1b[2", pasteStart + "\x1b[20", pasteStart + "\x1b[201",
}

// edges are the bytes around which what may follow changes, and a pause.
var edges = []int{
	0x00, 0x01, 0x08, 0x09, 0x0a, 0x0d, 0x1a, 0x1b, 0x1c, 0x1f, 0x20, 0x30, 0x31, 0x3b, 0x3f, 0x40, 0x41, 0x46, 0x47, 0x48, 0x4f, 0x5b, 0x7e, 0x7f,
	0x80, 0x8f, 0x90, 0x9f, 0xa0, 0xbf, 0xc0, 0xc1, 0xc2, 0xc3, 0xdf, 0xe0, 0xe2, 0xed, 0xef, 0xf0, 0xf4, 0xf5, 0xff, pause,
}

// few of them make runs of three, behind all that may wait.
var few = []int{0x01, 0x08, 0x0d, 0x1b, 0x20, 0x31, 0x3f, 0x40, 0x41, 0x4f, 0x5b, 0x7e, 0x7f, 0x80, 0x9f, 0xbf, 0xc1, 0xc3, 0xe0, 0xed, 0xf4, 0xff, pause}

// The document's examples: P9.2, P9.3
func TestExamples(t *testing.T) {
	told(t, of("aé\r\x01\x00"), ofSign(api.KeyRune, 'a'), ofSign(api.KeyRune, 0xe9), ofKind(api.KeyEnter), ofSign(api.KeyCtrl, 'a'), ofSign(api.KeyCtrl, '@'))
	told(t, of("\x1b", pause), ofKind(api.KeyEsc))
	told(t, of("\x1bx"), ofSign(api.KeyAlt, 'x'))
	told(t, of("\x1b\x1b", pause), ofKind(api.KeyEsc), ofKind(api.KeyEsc))
	told(t, of("\x1b[A\x1bOH\x1b[3~\x1b[9z"), ofKind(api.KeyUp), ofKind(api.KeyHome), ofKind(api.KeyDelete), ofInvalid("\x1b[9z"))
	told(t, of("\x1b[200~a\r\x01\xff\x1b[201~"), ofText(api.KeyPaste, "a\n"))
	told(t, of("\xc3a"), ofInvalid("\xc3"), ofSign(api.KeyRune, 'a'))
	told(t, of("\xc3", pause), ofInvalid("\xc3"))
}

// P9.1
func TestNew(t *testing.T) {
	d := keys.New()
	if d == nil || d.Waiting() || len(d.Tick()) != 0 {
		t.Fatal("something waits")
	}
	if l := d.Feed('a'); !slices.Equal(l, []api.Key{ofSign(api.KeyRune, 'a')}) {
		t.Error(l)
	}
}

// P9.2: each byte where nothing waits.
func TestFirst(t *testing.T) {
	for b := range 0x100 {
		s := string([]byte{byte(b)})
		if b == 0x1b || b >= 0xc2 && b <= 0xf4 {
			told(t, of(s))
			continue
		}
		told(t, of(s), ofByte(byte(b)))
	}
	told(t, of("\x1a\x1c\x1d\x1e\x1f"), ofSign(api.KeyCtrl, 'z'), ofSign(api.KeyCtrl, '\\'), ofSign(api.KeyCtrl, ']'), ofSign(api.KeyCtrl, '^'), ofSign(api.KeyCtrl, '_'))
	told(t, of("\n\t\b\x7f ~"), ofKind(api.KeyEnter), ofKind(api.KeyTab), ofKind(api.KeyBack), ofKind(api.KeyBack), ofSign(api.KeyRune, ' '), ofSign(api.KeyRune, '~'))
	told(t, of("\x80\xbf\xc1\xf5\xff"), ofInvalid("\x80"), ofInvalid("\xbf"), ofInvalid("\xc1"), ofInvalid("\xf5"), ofInvalid("\xff"))
}

// P9.2, P9.5: each rune of more than one byte, alone and behind an escape.
func TestRunes(t *testing.T) {
	d := keys.New()
	eachRune(func(r rune) {
		s := bytesOf(r)
		if l := feedAll(d, of(s)); !slices.Equal(l, []api.Key{ofSign(api.KeyRune, r)}) {
			t.Fatalf("%x: %#v", r, l)
		}
		if l := feedAll(d, of("\x1b"+s)); !slices.Equal(l, []api.Key{ofSign(api.KeyAlt, r)}) {
			t.Fatalf("1B %x: %#v", r, l)
		}
	})
	told(t, of("a\u0080\ufffd\U0010ffff日"), ofSign(api.KeyRune, 'a'), ofSign(api.KeyRune, 0x80), ofSign(api.KeyRune, 0xfffd), ofSign(api.KeyRune, 0x10ffff), ofSign(api.KeyRune, 0x65e5))
}

// P9.2: runes that are broken off, too long, too great, or half of a pair.
func TestBrokenRunes(t *testing.T) {
	a, bad := ofSign(api.KeyRune, 'a'), ofInvalid("\x80")
	told(t, of("\xe2\x82a"), ofInvalid("\xe2\x82"), a)
	told(t, of("\xf0\x9f\x98\xff"), ofInvalid("\xf0\x9f\x98"), ofInvalid("\xff"))
	told(t, of("\xe2\x82\xe2\x82\xac"), ofInvalid("\xe2\x82"), ofSign(api.KeyRune, 0x20ac))
	told(t, of("\xc3\x1b[A"), ofInvalid("\xc3"), ofKind(api.KeyUp))
	told(t, of("\xc3\r"), ofInvalid("\xc3"), ofKind(api.KeyEnter))
	told(t, of("\xc0\x80"), ofInvalid("\xc0"), bad)
	told(t, of("\xe0\x80\x80"), ofInvalid("\xe0"), bad, bad)
	told(t, of("\xed\xa0\x80"), ofInvalid("\xed"), ofInvalid("\xa0"), bad)
	told(t, of("\xf4\x90\x80\x80"), ofInvalid("\xf4"), ofInvalid("\x90"), bad, bad)
	told(t, of("\xf0\x8f\x80\x80"), ofInvalid("\xf0"), ofInvalid("\x8f"), bad, bad)
	told(t, of("\x1b\xe2\x82a"), ofInvalid("\x1b\xe2\x82"), a)
	told(t, of("\x1b\xc3\x1bx"), ofInvalid("\x1b\xc3"), ofSign(api.KeyAlt, 'x'))
	told(t, of("\x1b\xc3\xc3\xa9"), ofInvalid("\x1b\xc3"), ofSign(api.KeyRune, 0xe9))
}

// P9.2: each byte behind an escape.
func TestEscape(t *testing.T) {
	for b := range 0x100 {
		s := string([]byte{byte(b)})
		switch {
		case b == 'O' || b == '[' || b >= 0xc2 && b <= 0xf4:
			told(t, of("\x1b"+s))
		case b == 0x1b:
			told(t, of("\x1b"+s), ofKind(api.KeyEsc))
		case b >= 0x20 && b <= 0x7e:
			told(t, of("\x1b"+s), ofSign(api.KeyAlt, rune(b)))
		default:
			told(t, of("\x1b"+s), ofKind(api.KeyEsc), ofByte(byte(b)))
		}
	}
	told(t, of("\x1b\x1b\x1b[A"), ofKind(api.KeyEsc), ofKind(api.KeyEsc), ofKind(api.KeyUp))
	told(t, of("\x1b\x7f"), ofKind(api.KeyEsc), ofKind(api.KeyBack))
}

// P9.2: each byte behind 1B 4F and 1B 5B.
func TestBehindTwo(t *testing.T) {
	letters := map[byte]int{'A': api.KeyUp, 'B': api.KeyDown, 'C': api.KeyRight, 'D': api.KeyLeft, 'H': api.KeyHome, 'F': api.KeyEnd}
	for _, front := range []string{"\x1bO", "\x1b["} {
		for b := range 0x100 {
			s := front + string([]byte{byte(b)})
			kind, ok := letters[byte(b)]
			switch {
			case ok:
				told(t, of(s), ofKind(kind))
			case front == "\x1b[" && b >= 0x20 && b <= 0x3f:
				told(t, of(s))
			case b >= 0x20 && b <= 0x7e:
				told(t, of(s), ofInvalid(s))
			case b == 0x1b || b >= 0xc2 && b <= 0xf4:
				told(t, of(s), ofInvalid(front))
			default:
				told(t, of(s), ofInvalid(front), ofByte(byte(b)))
			}
		}
	}
}

// P9.2: sequences of more than three bytes.
func TestSequences(t *testing.T) {
	for s, kind := range map[string]int{"1~": api.KeyHome, "7~": api.KeyHome, "4~": api.KeyEnd, "8~": api.KeyEnd, "3~": api.KeyDelete} {
		told(t, of("\x1b["+s), ofKind(kind))
		told(t, of("\x1b["+s+"~"), ofKind(kind), ofSign(api.KeyRune, '~'))
	}
	for _, s := range []string{"~", "0~", "2~", "5~", "6~", "9~", "01~", "1;~", "1;5~", "3 ~", "33~", "1A", "1;5A", "0H", "?H", "1H", "?25h", "31m", "200A", "0200~", "200;~", "20~", "2000~", "201~", "2 00~", "[", "O", "1[", " q"} {
		told(t, of("\x1b["+s+"a"), ofInvalid("\x1b["+s), ofSign(api.KeyRune, 'a'))
	}
	for _, s := range []string{"", "1", "3", "200", "1;5", "?25", "   ", "/???"} {
		told(t, of("\x1b["+s+"\x7f"), ofInvalid("\x1b["+s), ofKind(api.KeyBack))
		told(t, of("\x1b["+s+"\x18A"), ofInvalid("\x1b["+s), ofSign(api.KeyCtrl, 'x'), ofSign(api.KeyRune, 'A'))
		told(t, of("\x1b["+s+"\x1b[A"), ofInvalid("\x1b["+s), ofKind(api.KeyUp))
		told(t, of("\x1b["+s+"é~"), ofInvalid("\x1b["+s), ofSign(api.KeyRune, 0xe9), ofSign(api.KeyRune, '~'))
		told(t, of("\x1b["+s+"\xff~"), ofInvalid("\x1b["+s), ofInvalid("\xff"), ofSign(api.KeyRune, '~'))
	}
	told(t, of("\x1bO1~"), ofInvalid("\x1bO1"), ofSign(api.KeyRune, '~'))
	told(t, of("\x1bO3~"), ofInvalid("\x1bO3"), ofSign(api.KeyRune, '~'))
	told(t, of("\x1bOOA"), ofInvalid("\x1bOO"), ofSign(api.KeyRune, 'A'))
	told(t, of("\x1bO200~"), ofInvalid("\x1bO2"), ofSign(api.KeyRune, '0'), ofSign(api.KeyRune, '0'), ofSign(api.KeyRune, '~'))
}

// P9.2, P9.3: each byte and a pause behind all that may wait, and what comes behind these.
func TestEachByte(t *testing.T) {
	for _, front := range fronts {
		for b := pause; b < 0x100; b++ {
			for _, next := range edges {
				held(t, of(front, b, next, 'A'))
			}
		}
	}
}

// P9.2: three bytes at the edges, behind all that may wait.
func TestEdges(t *testing.T) {
	for _, front := range fronts {
		for _, a := range few {
			for _, b := range few {
				for _, c := range few {
					held(t, of(front, a, b, c))
				}
			}
		}
	}
}

// P9.2: what is pasted.
func TestPaste(t *testing.T) {
	for s, want := range map[string]string{
		"": "", "a": "a", "a b": "a b", "a\rb": "a\nb", "a\nb": "a\nb", "a\r\nb": "a\n\nb", "\r\r": "\n\n", "\ta": "\ta",
		"\x00\x01\x08\x0b\x0c\x1f\x7f!": "!", "\u0080\u009f\u00a0": "\u00a0", "e\u0301\u200b\ufeff\u2028.": "e.", "日é\U0001f600": "日é\U0001f600",
		"\xff\xfea": "a", "\xe2\x82a": "a", "\xe2\x82": "", "\x80\xac": "", "\xed\xa0\x80": "", "\xc3\xff\xa9": "", "\xc3\r\xa9": "\n", "\ufffd\xff": "\ufffd",
		"\x1b[A": "[A", "\x1b": "", "\x1b\x1b": "", "\x1b[200~": "[200~", "\x1b[20": "[20", "\x1b[201": "[201", "[201~": "[201~", "\x1b[2001~": "[2001~", "\x1b[201\x00~": "[201~", "\x1b [201~": " [201~", "\x1bO201~": "O201~",
	} {
		told(t, of(pasteStart+s+pasteEnd), ofText(api.KeyPaste, want))
		told(t, of(pasteStart+s+pasteEnd+"\x1b[A"+pasteEnd), ofText(api.KeyPaste, want), ofKind(api.KeyUp), ofInvalid(pasteEnd))
		told(t, of("\x1b"+pasteStart+s+pasteEnd+pasteStart), ofKind(api.KeyEsc), ofText(api.KeyPaste, want))
	}
	told(t, of(pasteStart+"a"+pasteEnd+"\r"+pasteStart+"b"+pasteEnd), ofText(api.KeyPaste, "a"), ofKind(api.KeyEnter), ofText(api.KeyPaste, "b"))
}

// P9.2: each rune, pasted.
func TestPasteRunes(t *testing.T) {
	d := keys.New()
	var s, want strings.Builder
	one := func(r rune) {
		put := bytesOf(r)
		s.WriteString(put)
		switch {
		case r == '\r':
			want.WriteByte('\n')
		case r == '\n' || r == '\t' || widths.Of(r) > 0:
			want.WriteString(put)
		}
	}
	for r := rune(0); r < 0x80; r++ {
		one(r)
	}
	eachRune(one)
	l := feedAll(d, of(pasteStart+s.String()+pasteEnd))
	if !slices.Equal(l, []api.Key{ofText(api.KeyPaste, want.String())}) {
		t.Fatalf("%d keys", len(l))
	}
	if d.Waiting() {
		t.Error("something waits")
	}
}

// P9.2: only the last six bytes that are pasted end a paste, and no fewer.
func TestPasteEnd(t *testing.T) {
	for n := range len(pasteEnd) {
		part := pasteEnd[:n]
		told(t, of(pasteStart+part+"a"+pasteEnd), ofText(api.KeyPaste, clean(part+"a")))
		told(t, of(pasteStart+part+pasteEnd), ofText(api.KeyPaste, clean(part)))
		told(t, of(pasteStart+part, pause))
		for _, b := range edges {
			held(t, of(pasteStart+part, b, pause, 'a'))
			held(t, append(of(pasteStart+part, b), of(pasteEnd[n:]+"a"+pasteEnd)...))
			held(t, append(of(pasteStart+part, b), of(pasteEnd[min(n+1, 5):]+"a"+pasteEnd)...))
		}
		// A pause is no byte: it breaks off neither a paste nor its end.
		told(t, append(of(pasteStart+"é"+part, pause, pause), of(pasteEnd[n:]+"a")...), ofText(api.KeyPaste, "é"), ofSign(api.KeyRune, 'a'))
	}
	told(t, append(of(pasteStart+"\xc3", pause), of("\xa9"+pasteEnd)...), ofText(api.KeyPaste, "é"))
}

// P9.3: a pause behind all that may wait; another one tells nothing.
func TestTick(t *testing.T) {
	for _, s := range fronts {
		var want []api.Key
		switch {
		case s == "" || strings.HasPrefix(s, pasteStart):
		case s == "\x1b":
			want = []api.Key{ofKind(api.KeyEsc)}
		default:
			want = []api.Key{ofInvalid(s)}
		}
		told(t, of(s, pause), want...)
		told(t, of(s, pause, pause, pause), want...)
	}
	told(t, of(pasteStart[:3], pause, '0', '0', '~'), ofInvalid("\x1b[2"), ofSign(api.KeyRune, '0'), ofSign(api.KeyRune, '0'), ofSign(api.KeyRune, '~'))
	told(t, of("\x1b", pause, '[', 'A'), ofKind(api.KeyEsc), ofSign(api.KeyRune, '['), ofSign(api.KeyRune, 'A'))
	told(t, of("\xc3", pause, 0xa9), ofInvalid("\xc3"), ofInvalid("\xa9"))
}

// P9.1: what waits, and what does not, also while a paste goes on of which there is no byte yet.
func TestWaiting(t *testing.T) {
	for _, s := range fronts {
		d := keys.New()
		if feedAll(d, of(s)); d.Waiting() != (s != "") {
			t.Errorf("%q: %v", s, d.Waiting())
		}
		pasting := strings.HasPrefix(s, pasteStart)
		if d.Tick(); d.Waiting() != pasting {
			t.Errorf("%q, a pause: %v", s, d.Waiting())
		}
		if feedAll(d, of(pasteEnd)); d.Waiting() {
			t.Errorf("%q, a pause and %q: something waits", s, pasteEnd)
		}
	}
}

// P9.4, R1, R3: one that is none, before and after it was fed anything.
func TestNone(t *testing.T) {
	for _, d := range []*keys.Decoder{nil, {}, new(keys.Decoder)} {
		for _, s := range append(fronts, "a", "\r", "\xff", pasteEnd, "\x1b[A") {
			for _, x := range of(s, pause) {
				if l := feed(d, x); len(l) != 0 || d.Waiting() {
					t.Fatalf("%x: %#v, %v", x, l, d.Waiting())
				}
			}
		}
	}
}

// parts are what random texts are made of.
var parts = []string{
	"a", "xyz", "é", "日", "\U0001f600", "\u0085", "\ufffd", "\r", "\n", "\t", "\b", "\x7f", "\x00", "\x1a", "\x1f", "\x1b", "\x1b", "\x1b\x1b", "\x1b[", "\x1bO", "[", "O", "~", "1", "3~", "200~", "201~", ";", "?",
	"\x1b[A", "\x1bOD", "\x1b[1~", "\x1b[3~", "\x1b[9z", "\x1b[1;5C", "\x1b[200", pasteStart, pasteEnd, pasteEnd, pasteEnd, "\xff", "\x80", "\xc3", "\xe2\x82", "\xf0\x9f\x98", "\xed\xa0", "\x1b\xc3", "\x1b日", "\x1b\xf0\x9f",
}

// random is parts, pauses, and any bytes.
func random(r *rand.Rand) fed {
	var f fed
	for range r.Intn(12) {
		switch r.Intn(12) {
		case 0:
			f = append(f, pause)
		case 1:
			f = append(f, r.Intn(0x100))
		default:
			f = append(f, of(parts[r.Intn(len(parts))])...)
		}
	}
	return f
}

// P9.2, P9.3: any texts, with pauses.
func TestRandom(t *testing.T) {
	r := rand.New(rand.NewSource(9))
	for range 50000 {
		held(t, random(r))
	}
}

// spellings are the bytes that a key may have been made of.
func spellings(k api.Key, ahead string) []string {
	switch k.Kind {
	case api.KeyInvalid:
		return []string{k.Text}
	case api.KeyRune:
		return []string{bytesOf(k.R)}
	case api.KeyAlt:
		return []string{"\x1b" + bytesOf(k.R)}
	case api.KeyEnter:
		return []string{"\r", "\n"}
	case api.KeyTab:
		return []string{"\t"}
	case api.KeyBack:
		return []string{"\b", "\x7f"}
	case api.KeyEsc:
		return []string{"\x1b"}
	case api.KeyCtrl:
		return []string{string([]byte{byte(strings.IndexRune(signs, k.R))})}
	case api.KeyPaste:
		if n := strings.Index(ahead, pasteEnd); n >= 0 && strings.HasPrefix(ahead, pasteStart) {
			return []string{ahead[:n+len(pasteEnd)]}
		}
		return nil
	}
	var l []string
	for s, kind := range named {
		if kind == k.Kind {
			l = append(l, "\x1b"+s)
		}
	}
	return l
}

// P9.5: the bytes of all keys, and those that wait, are all bytes that were fed, in order.
func TestAllBytes(t *testing.T) {
	r := rand.New(rand.NewSource(95))
	for range 20000 {
		f := random(r)
		d, rest := keys.New(), f.bytes()
		for _, k := range feedAll(d, f) {
			l := spellings(k, rest)
			n := slices.IndexFunc(l, func(s string) bool { return s != "" && strings.HasPrefix(rest, s) })
			if n < 0 {
				t.Fatalf("%x: %#v is not of %q", []int(f), k, rest)
			}
			rest = rest[len(l[n]):]
		}
		if d.Waiting() != (rest != "") {
			t.Fatalf("%x: %q is left, Waiting %v", []int(f), rest, d.Waiting())
		}
	}
}

// P9.5: behind a pause, but in a paste, all is as from the beginning.
func TestBehindPause(t *testing.T) {
	r := rand.New(rand.NewSource(59))
	for range 20000 {
		f, g := random(r), random(r)
		d := keys.New()
		feedAll(d, f)
		if d.Tick(); d.Waiting() {
			if !strings.Contains(f.bytes(), pasteStart) {
				t.Fatalf("%x: something waits", []int(f))
			}
			feedAll(d, of(pasteEnd))
		}
		want, waiting := g.keys()
		if l := feedAll(d, g); !slices.Equal(l, want) || d.Waiting() != waiting {
			t.Fatalf("%x, and %x: %#v, not %#v", []int(f), []int(g), l, want)
		}
	}
}

// R2: decoders have nothing to do with each other.
func TestApart(t *testing.T) {
	r := rand.New(rand.NewSource(92))
	for range 2000 {
		f, g := random(r), random(r)
		d, e := keys.New(), keys.New()
		var l, m []api.Key
		for i := range max(len(f), len(g)) {
			if i < len(f) {
				l = append(l, feed(d, f[i])...)
			}
			if i < len(g) {
				m = append(m, feed(e, g[i])...)
			}
		}
		wantL, _ := f.keys()
		wantM, _ := g.keys()
		if !slices.Equal(l, wantL) || !slices.Equal(m, wantM) {
			t.Fatalf("%x and %x: %#v and %#v", []int(f), []int(g), l, m)
		}
	}
}

// R4: lists that are told are the caller's own: what is done with them changes nothing.
func TestListsAreTheCallers(t *testing.T) {
	r := rand.New(rand.NewSource(94))
	for range 2000 {
		f := random(r)
		d, before := keys.New(), 0
		for n := range f {
			l := feed(d, f[n])
			want, _ := f[:n+1].keys()
			if !slices.Equal(l, want[before:]) {
				t.Fatalf("%x: %#v, not %#v", []int(f[:n+1]), l, want[before:])
			}
			before = len(want)
			for i := range l {
				l[i] = ofText(99, "changed")
			}
			_ = append(l, ofKind(98))
		}
	}
}

// R1, P9.2: far more bytes of a key, and of a paste, than a text that is edited may have.
func TestLong(t *testing.T) {
	const many = 1 << 20
	a := ofSign(api.KeyRune, 'a')
	long := "\x1b[" + strings.Repeat("0;?", many)
	for _, x := range []struct {
		f    fed
		want []api.Key
	}{
		{of(long, pause, 'a'), []api.Key{ofInvalid(long), a}},
		{of(long + "~a"), []api.Key{ofInvalid(long + "~"), a}},
		{of(long + "\nOA"), []api.Key{ofInvalid(long), ofKind(api.KeyEnter), ofSign(api.KeyRune, 'O'), ofSign(api.KeyRune, 'A')}},
		{of(pasteStart + strings.Repeat("日\r\xff", many) + pasteEnd + "a"), []api.Key{ofText(api.KeyPaste, strings.Repeat("日\n", many)), a}},
		{of(strings.Repeat("\xf0", many)+"\x1b", pause), append(slices.Repeat([]api.Key{ofInvalid("\xf0")}, many), ofKind(api.KeyEsc))},
		{of(strings.Repeat("\x1b", many), pause), slices.Repeat([]api.Key{ofKind(api.KeyEsc)}, many)},
	} {
		if l := feedAll(keys.New(), x.f); !slices.Equal(l, x.want) {
			t.Errorf("%d keys, not %d", len(l), len(x.want))
		}
	}
}
