package regs_test

import (
	"math/rand"
	"slices"
	"strconv"
	"strings"
	"testing"

	"limner/api"
	"limner/regs"
)

// What the document says of rules' texts and of nodes, written out once more, to hold the package against: a text is cut in all ways that there are, not read from its front, and a set is a list of 256.

const special = `()[]|*+?.\-^`

type bits [256]bool

func isSpecial(s string) bool {
	return len(s) == 1 && strings.Contains(special, s)
}

// letterOf is the byte of a letter, as it is within brackets.
func letterOf(s string) (b byte, ok bool) {
	if len(s) == 1 {
		return s[0], !isSpecial(s)
	}
	behind, ok := strings.CutPrefix(s, `\`)
	if !ok {
		return 0, false
	}
	if isSpecial(behind) {
		return behind[0], true
	}
	switch behind {
	case "n":
		return 10, true
	case "t":
		return 9, true
	case "r":
		return 13, true
	}
	two, ok := strings.CutPrefix(behind, "x")
	if !ok || len(two) != 2 {
		return 0, false
	}
	digits := "0123456789abcdef"
	high, low := strings.IndexByte(digits, lower(two[0])), strings.IndexByte(digits, lower(two[1]))
	return byte(high*16 + low), high >= 0 && low >= 0
}

func lower(b byte) byte {
	if 'A' <= b && b <= 'Z' {
		return b + 'a' - 'A'
	}
	return b
}

// spanOf is the bytes of one span.
func spanOf(s string) (set bits, ok bool) {
	if b, ok := letterOf(s); ok {
		set[b] = true
		return set, true
	}
	for i := range len(s) {
		from, ok1 := letterOf(s[:i])
		to, ok2 := letterOf(s[i+1:])
		if s[i] != '-' || !ok1 || !ok2 || from > to {
			continue
		}
		for b := int(from); b <= int(to); b++ {
			set[b] = true
		}
		return set, true
	}
	return set, false
}

// spansOf is the bytes of one or more spans, one behind the other.
func spansOf(s string) (set bits, ok bool) {
	// A span has at most 9 bytes.
	for i := 1; i <= len(s) && i <= 9; i++ {
		set, ok := spanOf(s[:i])
		if !ok {
			continue
		}
		if i == len(s) {
			return set, true
		}
		if more, ok := spansOf(s[i:]); ok {
			for b := range more {
				set[b] = set[b] || more[b]
			}
			return set, true
		}
	}
	return set, false
}

func bytesNode(set bits) regs.Node {
	n := regs.Node{Kind: regs.Bytes}
	for b, has := range set {
		if has {
			n.Set[b/64] |= 1 << (b % 64)
		}
	}
	return n
}

func flipped(set bits) bits {
	for b := range set {
		set[b] = !set[b]
	}
	return set
}

func oneByte(b byte) regs.Node {
	var set bits
	set[b] = true
	return bytesNode(set)
}

func allBut(b byte) regs.Node {
	var set bits
	set[b] = true
	return bytesNode(flipped(set))
}

// between is what stands in a text between two others.
func between(s, front, end string) (string, bool) {
	s, ok1 := strings.CutPrefix(s, front)
	s, ok2 := strings.CutSuffix(s, end)
	return s, ok1 && ok2
}

func atomOf(s string) (n regs.Node, ok bool) {
	if s == "." {
		return allBut(10), true
	}
	if b, ok := letterOf(s); ok {
		return oneByte(b), true
	}
	if s == "-" || s == "^" {
		return oneByte(s[0]), true
	}
	if in, ok := between(s, "(", ")"); ok {
		return ruleOf(in)
	}
	if in, ok := between(s, "[^", "]"); ok {
		set, ok := spansOf(in)
		return bytesNode(flipped(set)), ok
	}
	if in, ok := between(s, "[", "]"); ok {
		set, ok := spansOf(in)
		return bytesNode(set), ok
	}
	return regs.Node{}, false
}

func pieceOf(s string) (n regs.Node, ok bool) {
	if n, ok := atomOf(s); ok {
		return n, true
	}
	for sign, kind := range map[string]int{"*": regs.Star, "+": regs.Plus, "?": regs.Maybe} {
		if ahead, ok := strings.CutSuffix(s, sign); ok {
			kid, ok := pieceOf(ahead)
			return regs.Node{Kind: kind, Kids: []regs.Node{kid}}, ok
		}
	}
	return regs.Node{}, false
}

func piecesOf(s string) (l []regs.Node, ok bool) {
	if s == "" {
		return nil, true
	}
	for i := 1; i <= len(s); i++ {
		n, ok := pieceOf(s[:i])
		if !ok {
			continue
		}
		if more, ok := piecesOf(s[i:]); ok {
			return append([]regs.Node{n}, more...), true
		}
	}
	return nil, false
}

func rowsOf(s string) (l []regs.Node, ok bool) {
	for i := 0; i <= len(s); i++ {
		if i < len(s) && s[i] != '|' {
			continue
		}
		pieces, ok := piecesOf(s[:i])
		if !ok {
			continue
		}
		row := regs.Node{Kind: regs.Cat, Kids: pieces}
		switch len(pieces) {
		case 0:
			row = regs.Node{Kind: regs.Empty}
		case 1:
			row = pieces[0]
		}
		if i == len(s) {
			return []regs.Node{row}, true
		}
		if more, ok := rowsOf(s[i+1:]); ok {
			return append([]regs.Node{row}, more...), true
		}
	}
	return nil, false
}

// ruleOf is the tree of a rule's text.
func ruleOf(s string) (n regs.Node, ok bool) {
	l, ok := rowsOf(s)
	switch {
	case !ok:
		return regs.Node{}, false
	case len(l) == 1:
		return l[0], true
	}
	return regs.Node{Kind: regs.Alt, Kids: l}, true
}

// equal tells whether two nodes are the same.
func equal(a, b regs.Node) bool {
	if a.Kind != b.Kind || len(a.Kids) != len(b.Kids) {
		return false
	}
	for i := range a.Set {
		if a.Set[i] != b.Set[i] {
			return false
		}
	}
	for i := range a.Kids {
		if !equal(a.Kids[i], b.Kids[i]) {
			return false
		}
	}
	return true
}

// byteText is a byte as Show tells it.
func byteText(b byte) string {
	switch {
	case b == 9:
		return `\t`
	case b == 10:
		return `\n`
	case b == 13:
		return `\r`
	case b > 32 && b < 127 && isSpecial(string(rune(b))):
		return `\` + string(rune(b))
	case b > 32 && b < 127:
		return string(rune(b))
	}
	s := strconv.FormatInt(int64(b)+256, 16)
	return `\x` + s[1:]
}

// setText is a set as Show tells it.
func setText(set bits) string {
	var each, s string
	n := 0
	for from := 0; from < 256; from++ {
		if !set[from] || from > 0 && set[from-1] {
			continue
		}
		to := from
		for to < 255 && set[to+1] {
			to++
		}
		n += to - from + 1
		each = byteText(byte(from))
		s += each
		if to > from {
			s += "-" + byteText(byte(to))
		}
	}
	switch n {
	case 0:
		return `[^\x00-\xff]`
	case 1:
		return each
	}
	return "[" + s + "]"
}

// textOf is a node that may be as Show tells it.
func textOf(n regs.Node) string {
	kids := make([]string, len(n.Kids))
	for i, kid := range n.Kids {
		kids[i] = textOf(kid)
		if kid.Kind == regs.Alt || kid.Kind == regs.Cat && n.Kind != regs.Alt {
			kids[i] = "(" + kids[i] + ")"
		}
	}
	switch n.Kind {
	case regs.Empty:
		return "()"
	case regs.Bytes:
		var set bits
		for b := range set {
			set[b] = n.Set[b/64]&(1<<(b%64)) != 0
		}
		return setText(set)
	case regs.Cat:
		return strings.Join(kids, "")
	case regs.Alt:
		return strings.Join(kids, "|")
	case regs.Star:
		return kids[0] + "*"
	case regs.Plus:
		return kids[0] + "+"
	}
	return kids[0] + "?"
}

// copied is a node that shares nothing with n.
func copied(n regs.Node) regs.Node {
	kids := make([]regs.Node, len(n.Kids))
	for i, kid := range n.Kids {
		kids[i] = copied(kid)
	}
	n.Kids = kids
	return n
}

func of(kind int, kids ...regs.Node) regs.Node {
	return regs.Node{Kind: kind, Kids: kids}
}

var (
	kinds = []int{regs.Empty, regs.Bytes, regs.Cat, regs.Alt, regs.Star, regs.Plus, regs.Maybe}
	empty = regs.Node{Kind: regs.Empty}
	a     = oneByte('a')
	b     = oneByte('b')
	c     = oneByte('c')
)

// holdParse holds what Parse tells of a text against the document, and what Show tells of that.
func holdParse(t *testing.T, s string) (ok bool) {
	t.Helper()
	want, ok := ruleOf(s)
	n, e := regs.Parse(s)
	if !ok {
		if e != api.ErrForm || !equal(n, regs.Node{}) {
			t.Errorf("Parse of %q: %v, %v", s, n, e)
		}
		return false
	}
	if e != api.OK || !equal(n, want) {
		t.Errorf("Parse of %q: %v, %v, and not %v", s, n, e, want)
		return true
	}
	holdShow(t, n)
	return true
}

// holdShow holds what Show tells of a node that may be against the document, and what Parse tells of that.
func holdShow(t *testing.T, n regs.Node) {
	t.Helper()
	was, want := copied(n), textOf(n)
	s := regs.Show(n)
	if s != want {
		t.Errorf("Show of %v: %q, and not %q", n, s, want)
	}
	if !equal(n, was) {
		t.Errorf("Show changed %v to %v", was, n)
	}
	again, e := regs.Parse(s)
	switch {
	case len(s) > 200:
		if e != api.ErrLong {
			t.Errorf("Parse of %q: %v", s, e)
		}
	case e != api.OK || !equal(again, n) || !regs.Same(again, n):
		t.Errorf("Show of %v: %q, which is %v, %v", n, s, again, e)
	}
}

// P10.1, P10.2: the document's examples.
func TestExamples(t *testing.T) {
	for s, want := range map[string]string{
		"a|bc*": "a|bc*", "((a))": "a", "(ab)+": "(ab)+", "[a-ce]": "[a-ce]", "[b]": "b", "": "()", "a|": "a|()", `\x0a`: `\n`, ".": `[\x00-\t\x0b-\xff]`,
	} {
		n, e := regs.Parse(s)
		if got := regs.Show(n); e != api.OK || got != want {
			t.Errorf("%q: %q, %v", s, got, e)
		}
	}
	for _, s := range []string{"a)", "[]", "[b-a]", `\q`, "*a"} {
		if n, e := regs.Parse(s); e != api.ErrForm || !equal(n, regs.Node{}) {
			t.Errorf("%q: %v, %v", s, n, e)
		}
	}
}

// P10.1: what trees are made of texts, said by hand.
func TestTrees(t *testing.T) {
	ab := bytesNode(bits{'a': true, 'b': true})
	for s, want := range map[string]regs.Node{
		"": empty, "()": empty, "(())": empty, "a": a, "(a)": a,
		"ab": of(regs.Cat, a, b), "abc": of(regs.Cat, a, b, c), "(ab)c": of(regs.Cat, of(regs.Cat, a, b), c), "a(bc)": of(regs.Cat, a, of(regs.Cat, b, c)), "()a": of(regs.Cat, empty, a), "()()": of(regs.Cat, empty, empty),
		"|": of(regs.Alt, empty, empty), "a|b": of(regs.Alt, a, b), "a|b|c": of(regs.Alt, a, b, c), "(a|b)|c": of(regs.Alt, of(regs.Alt, a, b), c), "a|(b|c)": of(regs.Alt, a, of(regs.Alt, b, c)), "ab|c": of(regs.Alt, of(regs.Cat, a, b), c), "a||b": of(regs.Alt, a, empty, b), "|a": of(regs.Alt, empty, a),
		"a*": of(regs.Star, a), "a+": of(regs.Plus, a), "a?": of(regs.Maybe, a), "a*+?": of(regs.Maybe, of(regs.Plus, of(regs.Star, a))), "(a?)*": of(regs.Star, of(regs.Maybe, a)), "ab*": of(regs.Cat, a, of(regs.Star, b)), "(ab)*": of(regs.Star, of(regs.Cat, a, b)), "()*": of(regs.Star, empty), "(|)?": of(regs.Maybe, of(regs.Alt, empty, empty)), "[ab]+": of(regs.Plus, ab), "a|b*": of(regs.Alt, a, of(regs.Star, b)),
		"-": oneByte('-'), "^": oneByte('^'), "^a": of(regs.Cat, oneByte('^'), a), "a-b": of(regs.Cat, a, oneByte('-'), b), "^*": of(regs.Star, oneByte('^')), `\-`: oneByte('-'), `\^`: oneByte('^'),
		"[ab]": ab, "[a-b]": ab, "[ba]": ab, "[aab]": ab, "[a-aa-bb]": ab, `[\x61-\x62]`: ab, "[a-a]": a, "[^a]": allBut('a'), `[^\^]`: allBut('^'), `[\^a]`: bytesNode(bits{'^': true, 'a': true}), `[\--\.]`: bytesNode(bits{'-': true, '.': true}), `[^\x00-\xff]`: bytesNode(bits{}), `[^\x00-\x7f\x80-\xff]`: bytesNode(bits{}), `[\x00-\xff]`: bytesNode(flipped(bits{})),
		".": allBut('\n'), `\.`: oneByte('.'), `.*`: of(regs.Star, allBut('\n')), "\n": oneByte('\n'), "\x00": oneByte(0), "\xff": oneByte(0xff), "é": of(regs.Cat, oneByte(0xc3), oneByte(0xa9)), `\xFf`: oneByte(0xff), `\x0A0`: of(regs.Cat, oneByte(10), oneByte('0')), `\n`: oneByte('\n'), `\t`: oneByte('\t'), `\r`: oneByte('\r'), `\\n`: of(regs.Cat, oneByte('\\'), oneByte('n')),
	} {
		n, e := regs.Parse(s)
		if e != api.OK || !equal(n, want) || !regs.Same(n, want) {
			t.Errorf("%q: %v, %v", s, n, e)
		}
		if w, ok := ruleOf(s); !ok || !equal(w, want) {
			t.Errorf("the model is wrong: %q: %v", s, w)
		}
	}
}

// P10.1: texts that are no rule's.
func TestForm(t *testing.T) {
	for _, s := range []string{
		"(", ")", "())", "(()", ")(", "a)", "(a", "(a|", "|)", "a|b)",
		"[", "]", "[]", "[^]", "[^", "[a", "[a-", "[a-b", "a]", "[]]", "[[]", "[[a]]", "[]a]", "[^^]", "[a^]", "[^^a]", "[-]", "[a-]", "[-a]", "[--a]", "[a--]", "[a-b-c]", "[a-b-]", "[b-a]", `[\xff-\x00]`, `[b-\n]`, "[ac-b]", "[^b-a]", "[.]", "[*]", "[+]", "[?]", "[(]", "[)]", "[|]", "[a|b]", `[\]`, `[a\`, `[\q]`, `[\x6]`, `[a-\x6]`,
		"*", "+", "?", "*a", "a|*", "(*)", "|+", "(?a)", "**",
		`\`, `a\`, `\q`, `\N`, `\X61`, `\0`, `\a`, "\\\n", `\x`, `\x6`, `\x6g`, `\xg6`, `\x 6`, `\x-1`, `\x+1`, `\x_1`, `\x0x`, `\x(1)`, `\é`, `(\)`,
	} {
		if n, e := regs.Parse(s); e != api.ErrForm || !equal(n, regs.Node{}) {
			t.Errorf("%q: %v, %v", s, n, e)
		}
		if _, ok := ruleOf(s); ok {
			t.Errorf("the model is wrong: %q", s)
		}
	}
}

// P10.1: all short texts of the special bytes and of some others.
func TestShort(t *testing.T) {
	const signs = special + "abn"
	right := 0
	var all func(s string, more int)
	all = func(s string, more int) {
		if holdParse(t, s) {
			right++
		}
		for i := 0; i < len(signs) && more > 0 && !t.Failed(); i++ {
			all(s+signs[i:i+1], more-1)
		}
	}
	all("", 4)
	for _, front := range []string{"[", "[^", "(", `\`, "[a-", `[\`} {
		all(front, 3)
	}
	if right < 5000 {
		t.Errorf("only %d of the texts are rules", right)
	}
}

// P10.1: each byte by itself, behind \, in brackets, and in all of its ways.
func TestBytes(t *testing.T) {
	for i := range 256 {
		s := string([]byte{byte(i)})
		for _, text := range []string{s, `\` + s, "[" + s + "]", "[^" + s + "]", `[\` + s + "]", `[^\` + s + "]", s + "*", "(" + s + ")", "a" + s, "[a" + s + "]", "[a-" + s + "]", "[" + s + "-z]", `[\` + s + "-z]", `\x` + s, `\x0` + s, `\x` + s + "0"} {
			holdParse(t, text)
		}
	}
}

// P10.1: \x and any two bytes.
func TestDigits(t *testing.T) {
	for i := range 0x10000 {
		s := string([]byte{byte(i >> 8), byte(i)})
		want, ok := letterOf(`\x` + s)
		n, e := regs.Parse(`\x` + s)
		if ok && (e != api.OK || !equal(n, oneByte(want))) || !ok && e != api.ErrForm {
			t.Errorf(`\x%q: %v, %v`, s, n, e)
		}
		// Within brackets likewise: what closes them is no digit.
		if n, e = regs.Parse(`[\x` + s + `]`); ok && (e != api.OK || !equal(n, oneByte(want))) || !ok && e != api.ErrForm {
			t.Errorf(`[\x%q]: %v, %v`, s, n, e)
		}
	}
}

// waysOf are texts of a byte, within brackets.
func waysOf(b byte) []string {
	s := strconv.FormatInt(int64(b)+256, 16)[1:]
	l := []string{`\x` + s, `\x` + strings.ToUpper(s)}
	if sign := string([]byte{b}); isSpecial(sign) {
		l = append(l, `\`+sign)
	} else {
		l = append(l, sign)
	}
	return append(l, byteText(b))
}

// P10.1, P10.2: all spans, and all that are none, with and without ^.
func TestSpans(t *testing.T) {
	source := rand.New(rand.NewSource(1))
	for from := range 256 {
		for to := range 256 {
			l, m := waysOf(byte(from)), waysOf(byte(to))
			first, last := l[source.Intn(len(l))], m[source.Intn(len(m))]
			var set, two bits
			for b := from; b <= to; b++ {
				set[b] = true
			}
			two[from], two[to] = true, true
			holdSet(t, "["+first+"-"+last+"]", set, from <= to)
			holdSet(t, "[^"+first+"-"+last+"]", flipped(set), from <= to)
			holdSet(t, "["+first+last+"]", two, true)
			holdSet(t, "[^"+first+last+"]", flipped(two), true)
		}
	}
}

// holdSet holds what Parse and Show tell of a text of one set against that set.
func holdSet(t *testing.T, s string, set bits, ok bool) {
	t.Helper()
	n, e := regs.Parse(s)
	if !ok {
		if e != api.ErrForm || !equal(n, regs.Node{}) {
			t.Errorf("%q: %v, %v", s, n, e)
		}
		return
	}
	if e != api.OK || !equal(n, bytesNode(set)) {
		t.Errorf("%q: %v, %v", s, n, e)
	}
	if got, want := regs.Show(n), setText(set); got != want {
		t.Errorf("Show of %q: %q, and not %q", s, got, want)
	}
}

// P10.2, P10.3: sets of all kinds.
func TestSets(t *testing.T) {
	source := rand.New(rand.NewSource(2))
	holdShow(t, bytesNode(bits{}))
	holdShow(t, bytesNode(flipped(bits{})))
	for i := range 3000 {
		var set bits
		has := source.Intn(2) == 0
		for b := range set {
			if source.Intn(1+i%40) == 0 {
				has = !has
			}
			set[b] = has
		}
		holdShow(t, bytesNode(set))
		holdShow(t, of(regs.Star, bytesNode(set)))
	}
}

// P10.2: what Show tells of nodes, said by hand.
func TestShow(t *testing.T) {
	ab, aOrB := of(regs.Cat, a, b), of(regs.Alt, a, b)
	for want, n := range map[string]regs.Node{
		"()": empty, "a": a, `\(`: oneByte('('), `\-`: oneByte('-'), `\^`: oneByte('^'), `\\`: oneByte('\\'), `\]`: oneByte(']'), `\x20`: oneByte(' '), "!": oneByte('!'), "~": oneByte('~'), `\x7f`: oneByte(0x7f), `\x00`: oneByte(0), `\xab`: oneByte(0xab), `\t`: oneByte(9), `\n`: oneByte(10), `\r`: oneByte(13), `\x0b`: oneByte(11),
		"[a-b]": bytesNode(bits{'a': true, 'b': true}), "[ac]": bytesNode(bits{'a': true, 'c': true}), "[a-c]": bytesNode(bits{'a': true, 'b': true, 'c': true}), `[\x00-\xff]`: bytesNode(flipped(bits{})), `[^\x00-\xff]`: bytesNode(bits{}), `[\--\.\^]`: bytesNode(bits{'-': true, '.': true, '^': true}), `[\x00\xff]`: bytesNode(bits{0: true, 255: true}), `[\?-@\x7f-\x80]`: bytesNode(bits{63: true, 64: true, 127: true, 128: true}),
		"ab": ab, "(ab)c": of(regs.Cat, ab, c), "(ab)*": of(regs.Star, ab), "(ab)+": of(regs.Plus, ab), "(ab)?": of(regs.Maybe, ab), "ab|c": of(regs.Alt, ab, c), "c|ab": of(regs.Alt, c, ab),
		"a|b": aOrB, "(a|b)c": of(regs.Cat, aOrB, c), "(a|b)*": of(regs.Star, aOrB), "(a|b)+": of(regs.Plus, aOrB), "(a|b)?": of(regs.Maybe, aOrB), "(a|b)|c": of(regs.Alt, aOrB, c), "c|(a|b)": of(regs.Alt, c, aOrB),
		"a*": of(regs.Star, a), "a+": of(regs.Plus, a), "a?": of(regs.Maybe, a), "a*+": of(regs.Plus, of(regs.Star, a)), "a*b": of(regs.Cat, of(regs.Star, a), b), "a+|b?": of(regs.Alt, of(regs.Plus, a), of(regs.Maybe, b)), "()*": of(regs.Star, empty), "a()": of(regs.Cat, a, empty), "()|()|()": of(regs.Alt, empty, empty, empty),
	} {
		if s := regs.Show(n); s != want {
			t.Errorf("%v: %q, and not %q", n, s, want)
		}
	}
}

// randomNode is one that may be, at most so deep.
func randomNode(source *rand.Rand, deep int) regs.Node {
	kind := kinds[source.Intn(len(kinds))]
	if deep < 2 {
		kind = kinds[source.Intn(2)]
	}
	n := regs.Node{Kind: kind}
	many := 1
	switch kind {
	case regs.Empty:
		return n
	case regs.Bytes:
		var set bits
		from := source.Intn(256)
		for b := from; b < 256 && b <= from+source.Intn(3); b++ {
			set[b] = true
		}
		set[source.Intn(256)] = source.Intn(3) == 0
		if source.Intn(20) == 0 {
			set = flipped(set)
		}
		return bytesNode(set)
	case regs.Cat, regs.Alt:
		many = 2 + source.Intn(3)
	}
	for range many {
		n.Kids = append(n.Kids, randomNode(source, deep-1))
	}
	return n
}

// P10.1, P10.2, P10.3: random nodes, as texts, and texts that are nearly theirs.
func TestRandom(t *testing.T) {
	source := rand.New(rand.NewSource(3))
	const signs = special + special + "abnrtx09Ff"
	wrong, long := 0, 0
	for i := range 20000 {
		n := randomNode(source, 1+i%6)
		holdShow(t, n)
		s := regs.Show(n)
		if len(s) > 60 {
			if len(s) > 200 {
				long++
			}
			continue
		}
		from := source.Intn(len(s) + 1)
		to := from + source.Intn(min(2, len(s)-from)+1)
		sign := source.Intn(len(signs))
		if !holdParse(t, s[:from]+signs[sign:sign+source.Intn(2)]+s[to:]) {
			wrong++
		}
	}
	if wrong < 1000 || long < 100 {
		t.Errorf("only %d texts are wrong, and %d too long", wrong, long)
	}
}

// P10.1, R5: texts of 200 bytes, and longer ones, that may be wrong, too.
func TestLong(t *testing.T) {
	many := func(s string, n int) string { return strings.Repeat(s, n) }
	for s, want := range map[string]api.Errno{
		many("a", 200): api.OK, many("a", 201): api.ErrLong, "a" + many("*", 199): api.OK, "a" + many("*", 200): api.ErrLong, many("(", 100) + many(")", 100): api.OK, many("(", 100) + "a" + many(")", 100): api.ErrLong, many("|", 200): api.OK, many("|", 201): api.ErrLong,
		many("(", 200): api.ErrForm, many("(", 201): api.ErrLong, "*" + many("a", 199): api.ErrForm, "*" + many("a", 200): api.ErrLong, many("a", 199) + ")": api.ErrForm, many("a", 200) + ")": api.ErrLong, "[" + many("a", 199): api.ErrForm, "[" + many("a", 198) + "]": api.OK, "[" + many("a", 199) + "]": api.ErrLong, many(`\x61`, 50): api.OK, many(`\x61`, 50) + `\`: api.ErrLong, many("a", 196) + `\x61`: api.OK, many("a", 197) + `\x6`: api.ErrForm, many("a", 198) + `\x`: api.ErrForm, many("a", 199) + `\`: api.ErrForm, many("a", 1<<20): api.ErrLong, many("é", 100): api.OK, many("é", 100) + "a": api.ErrLong,
	} {
		n, e := regs.Parse(s)
		if e != want {
			t.Errorf("%d bytes, %.20q: %v", len(s), s, e)
		}
		if e != api.OK {
			if !equal(n, regs.Node{}) {
				t.Errorf("%d bytes, %.20q: %v", len(s), s, n)
			}
			continue
		}
		holdShow(t, n)
	}
}

// P10.1: Same of all pairs of many nodes, also of such that may not be.
func TestSame(t *testing.T) {
	l := []regs.Node{empty, a, b, bytesNode(bits{}), bytesNode(flipped(bits{})), {Kind: -1}, {Kind: 7}}
	for i := range 4 {
		for _, kind := range kinds {
			n := regs.Node{Kind: kind}
			n.Set[i] = 1 << 63
			l = append(l, n)
		}
	}
	for _, kind := range kinds {
		for _, kids := range [][]regs.Node{{a}, {b}, {empty}, {a, b}, {b, a}, {a, a}, {a, b, a}, {a, b, b}, {of(kind, a)}, {of(kind, b)}, {of(kind, a, b), a}, {a, of(kind, a, b)}, {a, of(kind, b, a)}, {of(kind, of(kind, a, empty), b), a}, {of(kind, of(kind, a, a), b), a}} {
			l = append(l, of(kind, kids...))
		}
	}
	for i := range l {
		for j := range l {
			x, y := copied(l[i]), copied(l[j])
			if got, want := regs.Same(x, y), equal(l[i], l[j]); got != want || want && i != j && !equal(l[j], l[i]) {
				t.Errorf("%v and %v: %v", x, y, got)
			}
			if !equal(x, l[i]) || !equal(y, l[j]) {
				t.Errorf("Same changed %v or %v", l[i], l[j])
			}
		}
	}
	if !regs.Same(regs.Node{}, regs.Node{Kids: []regs.Node{}}) || !regs.Same(regs.Node{Kids: make([]regs.Node, 0, 3)}, empty) {
		t.Error("Kids that are nil or empty are the same")
	}
}

// places calls f with each node that is n with one of its parts changed to x.
func places(n, x regs.Node, f func(regs.Node)) {
	f(x)
	for i := range n.Kids {
		places(n.Kids[i], x, func(kid regs.Node) {
			m := copied(n)
			m.Kids[i] = kid
			f(m)
		})
	}
}

// P10.1: Same finds any part that is another one.
func TestSameParts(t *testing.T) {
	source := rand.New(rand.NewSource(4))
	for range 500 {
		n := randomNode(source, 5)
		if !regs.Same(n, copied(n)) {
			t.Errorf("%v is not the same as its copy", n)
		}
		places(n, regs.Node{Kind: regs.Bytes, Set: [4]uint64{1, 2, 3, 4}}, func(m regs.Node) {
			if got := regs.Same(n, m); got != equal(n, m) || got != regs.Same(m, n) {
				t.Errorf("%v and %v: %v", n, m, got)
			}
		})
	}
}

// P10.1: Has of sets of one byte, of all but one, and of random ones.
func TestHas(t *testing.T) {
	source := rand.New(rand.NewSource(5))
	hold := func(set [4]uint64) {
		for x := range 256 {
			if got, want := regs.Has(set, byte(x)), set[x/64]&(1<<(x%64)) != 0; got != want {
				t.Errorf("%x of %x: %v", x, set, got)
			}
		}
	}
	for x := range 256 {
		hold(oneByte(byte(x)).Set)
		hold(allBut(byte(x)).Set)
		hold([4]uint64{source.Uint64(), source.Uint64(), source.Uint64(), source.Uint64()})
	}
	hold([4]uint64{})
}

// P10.2: nodes that may not be, alone and as any part of one that may.
func TestMayNotBe(t *testing.T) {
	bad := []regs.Node{{Kind: -1}, {Kind: 7}, {Kind: 1 << 40}, {Kind: -1 << 63}, {Kind: 7, Kids: []regs.Node{a, b}}}
	for _, kind := range kinds {
		for many := range 4 {
			n := of(kind, slices.Repeat([]regs.Node{a}, many)...)
			switch kind {
			case regs.Empty, regs.Bytes:
				if many > 0 {
					bad = append(bad, n)
				}
			case regs.Cat, regs.Alt:
				if many < 2 {
					bad = append(bad, n)
				}
			default:
				if many != 1 {
					bad = append(bad, n)
				}
			}
			for i := range n.Set {
				if kind == regs.Bytes {
					break
				}
				m := copied(n)
				m.Set[i] = 1 << (17 * i)
				bad = append(bad, m)
			}
		}
	}
	source := rand.New(rand.NewSource(6))
	for _, x := range bad {
		n := randomNode(source, 4)
		for _, whole := range []regs.Node{of(regs.Cat, a, x, b), of(regs.Alt, x, a), of(regs.Star, x), of(regs.Plus, x), of(regs.Maybe, x), n} {
			places(whole, x, func(m regs.Node) {
				if s := regs.Show(m); s != "" {
					t.Errorf("%v: %q", m, s)
				}
			})
		}
	}
}

// chain is n with so many nodes of a kind around it, at its front or at its end.
func chain(n regs.Node, kind, around int, front bool) regs.Node {
	for range around {
		switch {
		case kind != regs.Cat && kind != regs.Alt:
			n = of(kind, n)
		case front:
			n = of(kind, n, b)
		default:
			n = of(kind, b, n)
		}
	}
	return n
}

// P10.2: nodes that are 200 deep, and deeper ones.
func TestDeep(t *testing.T) {
	for _, kind := range kinds[2:] {
		for _, leaf := range []regs.Node{empty, a} {
			for _, front := range []bool{true, false} {
				for _, around := range []int{1, 198, 199} {
					n := chain(leaf, kind, around, front)
					if s := regs.Show(n); s != textOf(n) {
						t.Errorf("kind %d, %d around: %q", kind, around, s)
					}
				}
				for _, around := range []int{200, 201, 400, 60000} {
					if s := regs.Show(chain(leaf, kind, around, front)); s != "" {
						t.Errorf("kind %d, %d around: %.40q", kind, around, s)
					}
				}
			}
		}
	}
	// All that stands at the side of the deepest part may be less deep.
	n := of(regs.Cat, a, chain(a, regs.Star, 198, true), b)
	if regs.Show(n) != textOf(n) || regs.Show(of(regs.Alt, a, n)) != "" {
		t.Error("200 deep at the side")
	}
	wide := of(regs.Alt, slices.Repeat([]regs.Node{of(regs.Cat, a, b)}, 100000)...)
	if s := regs.Show(wide); s != strings.Repeat("ab|", 99999)+"ab" {
		t.Errorf("wide: %d bytes", len(s))
	}
}

// R1: Same of nodes that are very deep or wide, alike or not at their ends.
func TestSameDeep(t *testing.T) {
	for _, kind := range []int{regs.Star, regs.Cat} {
		x, y, z := chain(a, kind, 60000, true), chain(a, kind, 60000, true), chain(b, kind, 60000, true)
		if !regs.Same(x, y) || regs.Same(x, z) || regs.Same(x, chain(a, kind, 59999, true)) {
			t.Errorf("kind %d", kind)
		}
	}
	l := slices.Repeat([]regs.Node{a}, 100000)
	m := append(slices.Clone(l[1:]), b)
	if !regs.Same(of(regs.Cat, l...), of(regs.Cat, slices.Clone(l)...)) || regs.Same(of(regs.Cat, l...), of(regs.Cat, m...)) {
		t.Error("wide")
	}
}

// ring is a node that holds itself, behind so many others.
func ring(kind, around, many int) regs.Node {
	kids := make([]regs.Node, many)
	n := of(kind, kids...)
	for range around {
		n = of(kind, slices.Repeat([]regs.Node{n}, many)...)
	}
	for i := range kids {
		kids[i] = n
	}
	return n
}

// R1: nodes that hold themselves may not be, and are held against each other.
func TestRings(t *testing.T) {
	for _, kind := range kinds {
		for many := 1; many < 4; many++ {
			var l []regs.Node
			for around := range 4 {
				n := ring(kind, around, many)
				for _, m := range []regs.Node{n, of(regs.Star, n), of(regs.Cat, a, n), of(regs.Alt, n, b)} {
					if s := regs.Show(m); s != "" {
						t.Errorf("kind %d, %d around, %d Kids: %.40q", kind, around, many, s)
					}
				}
				l = append(l, n)
			}
			for _, n := range l {
				if !regs.Same(n, l[0]) || !regs.Same(l[1], n) || regs.Same(n, of(kind, slices.Repeat([]regs.Node{a}, many)...)) {
					t.Errorf("Same, kind %d, %d Kids", kind, many)
				}
				other := slices.Repeat([]regs.Node{n}, many)
				other[many-1] = a
				if regs.Same(n, of(kind, other...)) || regs.Same(of(kind, other...), n) {
					t.Errorf("Same of another one, kind %d, %d Kids", kind, many)
				}
			}
		}
	}
}

// shared is a few lists that are very many nodes, with a leaf.
func shared(leaf regs.Node, deep int) regs.Node {
	for range deep {
		leaf = of(regs.Cat, leaf, leaf)
	}
	return leaf
}

// R1: lists that are shared are gone through at once.
func TestShared(t *testing.T) {
	for _, n := range []regs.Node{shared(regs.Node{Kind: 9}, 199), shared(a, 300), of(regs.Cat, shared(a, 150), regs.Node{Kind: 9}), of(regs.Cat, regs.Node{Kind: 9}, shared(a, 150)), of(regs.Cat, shared(a, 150), ring(regs.Alt, 2, 2))} {
		if s := regs.Show(n); s != "" {
			t.Errorf("%.40q", s)
		}
	}
	if n := shared(a, 8); regs.Show(n) != textOf(n) {
		t.Error("8 deep")
	}
	if !regs.Same(shared(a, 100), shared(a, 100)) || regs.Same(shared(a, 100), shared(b, 100)) || regs.Same(shared(a, 100), shared(a, 101)) {
		t.Error("Same")
	}
	// What is shared on one side may be held against lists that are unlike.
	x, y, z := of(regs.Cat, a, b), of(regs.Cat, a, b), of(regs.Cat, a, c)
	for _, other := range []regs.Node{of(regs.Alt, y, z), of(regs.Alt, z, y), of(regs.Alt, z, z)} {
		if n := of(regs.Alt, x, x); regs.Same(n, other) || regs.Same(other, n) {
			t.Errorf("%v is the same as %v", n, other)
		}
	}
	// Lists that begin at one place may be of two lengths, and such that are as long may begin at two places.
	l := []regs.Node{a, b, a, c}
	if regs.Same(of(regs.Cat, l[:2]...), of(regs.Cat, l[2:]...)) || regs.Same(of(regs.Alt, of(regs.Cat, l[:2]...), of(regs.Cat, l[:2]...)), of(regs.Alt, of(regs.Cat, a, b), of(regs.Cat, l[:3]...))) {
		t.Error("parts of one list")
	}
	bad := []regs.Node{a, b, {Kind: 9}}
	if s := regs.Show(of(regs.Alt, of(regs.Cat, bad[:2]...), of(regs.Cat, bad...))); s != "" {
		t.Errorf("a longer list behind a part of it: %q", s)
	}
	if s := regs.Show(of(regs.Alt, of(regs.Cat, bad[:2]...), of(regs.Cat, bad[1:]...))); s != "" {
		t.Errorf("another part of a list: %q", s)
	}
}

// R1, R2: any bytes and any nodes are told something, and the same again.
func TestAny(t *testing.T) {
	source := rand.New(rand.NewSource(7))
	for range 20000 {
		text := make([]byte, source.Intn(220))
		for i := range text {
			text[i] = byte(source.Intn(256))
			if source.Intn(2) == 0 {
				text[i] = special[source.Intn(len(special))]
			}
		}
		s := string(text)
		n, e := regs.Parse(s)
		m, f := regs.Parse(s)
		if e != f || !equal(n, m) || (e == api.ErrLong) != (len(s) > 200) || e != api.OK && !equal(n, regs.Node{}) {
			t.Errorf("%q: %v, %v; %v, %v", s, n, e, m, f)
		}
		if e == api.OK {
			holdShow(t, n)
		}
		x := anyNode(source, 3)
		if regs.Show(x) != regs.Show(copied(x)) || !regs.Same(x, copied(x)) {
			t.Errorf("%v", x)
		}
	}
}

// anyNode is one that mostly may not be.
func anyNode(source *rand.Rand, deep int) regs.Node {
	n := regs.Node{Kind: source.Intn(9) - 1}
	if source.Intn(3) == 0 {
		n.Set[source.Intn(4)] = source.Uint64()
	}
	for deep > 0 && source.Intn(3) > 0 && len(n.Kids) < 4 {
		n.Kids = append(n.Kids, anyNode(source, deep-1))
	}
	return n
}

// eachList calls f with all lists of Kids of a node.
func eachList(n regs.Node, f func(l []regs.Node)) {
	f(n.Kids)
	for _, kid := range n.Kids {
		eachList(kid, f)
	}
}

// R4: lists that are told are the caller's own, and no two share anything.
func TestOwn(t *testing.T) {
	for _, s := range []string{"a|bc*", "(a|b|c|a|b)(a|b|c)", "abc(abc(abc|a|b)abc)|a|b", "a**b++|(c?)?", "((ab|c)*ab|abc)+", "a(b(c(ab)c)b)a"} {
		n, _ := regs.Parse(s)
		was := copied(n)
		text := regs.Show(n)
		eachList(n, func(l []regs.Node) {
			for i := len(l); i < cap(l); i++ {
				l[:i+1][i] = regs.Node{Kind: 9}
			}
			if !equal(n, was) {
				t.Errorf("%q: what stands behind a list is of another one: %v", s, n)
			}
		})
		told, kept := 0, 0
		eachList(n, func(l []regs.Node) {
			for i := range l {
				told++
				l[i].Kind = told
			}
		})
		eachList(n, func(l []regs.Node) {
			for i := range l {
				kept++
				if l[i].Kind != kept {
					t.Errorf("%q: two lists share a node", s)
				}
			}
		})
		if again, e := regs.Parse(s); e != api.OK || !equal(again, was) {
			t.Errorf("%q is another one now: %v, %v", s, again, e)
		}
		if regs.Show(was) != text {
			t.Errorf("%q: what Show told is another one now", s)
		}
	}
}
