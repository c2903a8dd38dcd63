package dfas_test

import (
	"math"
	"math/rand"
	"slices"
	"strings"
	"testing"

	"limner/api"
	"limner/dfas"
	"limner/nfas"
	"limner/regs"
)

// many is a list of a text, so many times.
func many(s string, n int) []string {
	return slices.Repeat([]string{s}, n)
}

// textsOf is all texts of some letters that have at most so many of them.
func textsOf(letters string, most int) []string {
	l := []string{""}
	for from := 0; most > 0; most-- {
		to := len(l)
		for _, s := range l[from:to] {
			for i := range len(letters) {
				l = append(l, s+letters[i:i+1])
			}
		}
		from = to
	}
	return l
}

// rulesOf is those of some texts that are rules'.
func rulesOf(texts []string) []string {
	var l []string
	for _, s := range texts {
		if _, e := regs.Parse(s); e == api.OK {
			l = append(l, s)
		}
	}
	return l
}

// code is the rules of code (chapter 13).
func code() []string {
	return []string{`[ \t\r]+`, `\n`, `[a-zA-Z_][a-zA-Z0-9_]*`, `[0-9]+(\.[0-9]+)?([eE][\+\-]?[0-9]+)?`, `//[^\n]*`, `/\*`, `"`, `[\(\[{]`, `[\)\]}]`, `[\+\-\*/%<>!=,;:\.]|==|!=|<=|>=|&&|\|\||\->`}
}

// P12.1 to P12.4: the document's examples.
func TestExamples(t *testing.T) {
	r := made(t, "ab", "ac", "a")
	if x, y := r.dfa.States(), r.least.States(); x != 4 || y != 4 {
		t.Errorf("States: %d, %d", x, y)
	}
	holdMatch(t, r.dfa, "abx", 0, 2, 0, 2)
	holdMatch(t, r.dfa, "b", 0, 0, -1, 0)
	r = made(t, `[^\x00-\xff]a`)
	if x, y := r.dfa.States(), r.least.States(); x != 1 || y != 1 {
		t.Errorf("States of the other one: %d, %d", x, y)
	}
	holdMatch(t, made(t, "ab", "bb", "b").dfa, "a", 0, 0, -1, 1)
}

// holdMatch holds one Match.
func holdMatch(t *testing.T, d *dfas.DFA, s string, at, long, rule, steps int) {
	t.Helper()
	if x, y, z := d.Match(s, at); x != long || y != rule || z != steps {
		t.Errorf("Match of %d bytes, %d: %d, %d, %d, and not %d, %d, %d", len(s), at, x, y, z, long, rule, steps)
	}
}

// P12.4: how many states Min leaves, counted by hand.
func TestSizes(t *testing.T) {
	for _, x := range []struct {
		rules []string
		want  int
	}{
		{[]string{""}, 1},
		{[]string{"()*"}, 1},
		{[]string{`[^\x00-\xff]`}, 1},
		{[]string{`a[^\x00-\xff]`}, 1},
		{[]string{`a*[^\x00-\xff]`}, 1},
		{[]string{`(a|b)+c[^\x00-\xff]`}, 1},
		{[]string{`a[^\x00-\xff]|b`}, 2},
		{[]string{"a"}, 2},
		{[]string{"a*"}, 1},
		{[]string{"a+"}, 2},
		{[]string{"a?"}, 2},
		{[]string{"a|b|c"}, 2},
		{[]string{"ab|cb"}, 3},
		{[]string{"ab|cd"}, 4},
		{[]string{"ab|ac|a"}, 3},
		{[]string{"a", "b"}, 3},
		{[]string{"a", "a"}, 2},
		{[]string{"a|b", "b"}, 2},
		{[]string{"b", "a|b"}, 3},
		{[]string{"ab", "cb"}, 5},
		{[]string{"(a|b)*abb"}, 4},
		{[]string{"(aa)*", "(aaa)*"}, 6},
		{[]string{"(aaa)*", "(aa)*"}, 6},
		{[]string{"a*", "(aaa)*"}, 1},
		{[]string{"(aaa)*", "a*"}, 3},
		{[]string{"(aaaa)*", "(aa)*", "a*"}, 4},
		{[]string{"(a|b)*a(a|b)(a|b)(a|b)"}, 16},
		{[]string{"abcd|bbcd|cbcd|ccd|dd"}, 6},
		{[]string{strings.Repeat("a?", 50)}, 51},
		{[]string{strings.Repeat("a*", 100)}, 1},
		{[]string{strings.Repeat("a", 200)}, 201},
		{[]string{".", `\n`}, 3},
		{[]string{`.|\n`}, 2},
		{[]string{`\x00`, `\xff`, "a"}, 4},
	} {
		if got := made(t, x.rules...).least.States(); got != x.want {
			t.Errorf("States of Min of %q: %d, and not %d", x.rules, got, x.want)
		}
	}
}

// P12.1, P12.5: NFAs that are none.
func TestNoNFA(t *testing.T) {
	for _, n := range []*nfas.NFA{nil, {}, new(nfas.NFA)} {
		if d, e := dfas.Make(n); e != api.ErrNil || d != nil {
			t.Errorf("Make: %v, %v", d, e)
		}
	}
}

// P12.1: what has just 2000 states is made, and what has more isn't.
func TestLimits(t *testing.T) {
	// A letter each, and 199 more: ten of them are 2000 states behind the one at the beginning.
	var texts []string
	for i := range 10 {
		texts = append(texts, string(rune('A'+i))+strings.Repeat("a", 199))
	}
	holdTooMany(t, texts...)
	texts[3] = texts[3][1:]
	holdRoom(t, 2000, 2000, texts...)
	texts[3] = texts[3][1:]
	holdRoom(t, 1999, 1999, texts...)
	texts[3] = "D" + texts[3]
	holdRoom(t, 2000, 2000, texts...)
	for k := range 13 {
		rule := "(a|b)*a" + strings.Repeat("(a|b)", k)
		if k < 10 {
			holdRoom(t, 0, 2<<k, rule)
		} else {
			holdTooMany(t, rule)
		}
	}
	holdTooMany(t, ".*a"+strings.Repeat(".", 190))
	holdTooMany(t, append(many("b", 63), ".*a"+strings.Repeat(".", 11))...)
	// 3 * 5 * 128 states that lead round; and with 7 in the place of 3 too many.
	round := func(n int) string { return "(" + strings.Repeat("a", n) + ")*" }
	holdRoom(t, 1920, 1920, round(3), round(5), round(128))
	holdTooMany(t, round(7), round(5), round(128))
}

// holdTooMany holds that rules have more states than may be.
func holdTooMany(t *testing.T, rules ...string) {
	t.Helper()
	n, e := nfas.Make(rules)
	if e != api.OK {
		t.Fatalf("nfas: %v", e)
	}
	if d, e := dfas.Make(n); e != api.ErrState || d != nil {
		t.Errorf("Make: %d states, %v", d.States(), e)
	}
}

// holdRoom holds how many states Make (0: it is not said) and Min tell, and what these take.
func holdRoom(t *testing.T, states, least int, rules ...string) {
	t.Helper()
	r := made(t, rules...)
	if got := r.dfa.States(); states > 0 && got != states {
		t.Errorf("States of Make: %d, and not %d", got, states)
	}
	if got := r.least.States(); got != least {
		t.Errorf("States of Min: %d, and not %d", got, least)
	}
	r.holdMake(t, []byte("abABCDEFGHIJ\n\x00\xff"))
	holdSame(t, r.least.Min(), r.least)
	for i, s := range rules {
		if strings.ContainsAny(s, "(.*[") {
			continue
		}
		for _, d := range []*dfas.DFA{r.dfa, r.least} {
			holdMatch(t, d, s+"!", 0, len(s), i, len(s))
			holdMatch(t, d, s[:len(s)-1]+"!", 0, 0, -1, len(s)-1)
		}
	}
}

// P12.1, P12.2: 64 rules, of all numbers.
func TestNumbers(t *testing.T) {
	var rules []string
	for i := range 64 {
		rules = append(rules, string(rune('0'+i)))
	}
	for i, s := range rules {
		if _, e := regs.Parse(s); e != api.OK {
			rules[i] = `\` + s
		}
	}
	r := made(t, rules...)
	if got := r.least.States(); got != 65 {
		t.Errorf("States of Min: %d", got)
	}
	for i := range 64 {
		s := string(rune('0' + i))
		for _, d := range []*dfas.DFA{r.dfa, r.least} {
			holdMatch(t, d, s+s, 0, 1, i, 1)
			if got := d.Accepts(d.Step(0, s[0])); got != i {
				t.Errorf("Accepts behind %q: %d", s, got)
			}
		}
	}
	r.holdMake(t, allBytes)
	r.holdMin(t, allBytes)
}

// P12.2: states that there are not, and bytes that lead nowhere.
func TestStates(t *testing.T) {
	for _, texts := range [][]string{{"ab", "ac", "a"}, {""}, {"a*"}, {`[^\x00-\xff]`}, code()} {
		r := made(t, texts...)
		for _, d := range []*dfas.DFA{r.dfa, r.least} {
			for _, at := range []int{-1, -2, -256, math.MinInt, d.States(), d.States() + 1, d.States() + 256, math.MaxInt} {
				if rule := d.Accepts(at); rule != -1 {
					t.Errorf("%q: Accepts of %d: %d", texts, at, rule)
				}
				for _, b := range allBytes {
					if to := d.Step(at, b); to != -1 {
						t.Errorf("%q: Step of %d by %q: %d", texts, at, b, to)
					}
				}
			}
			for at := range d.States() {
				for _, b := range allBytes {
					if to := d.Step(at, b); to < -1 || to >= d.States() {
						t.Errorf("%q: Step of %d by %q: %d", texts, at, b, to)
					}
				}
			}
		}
	}
	r := made(t, "ab", "ac", "a")
	for _, d := range []*dfas.DFA{r.dfa, r.least} {
		a := d.Step(0, 'a')
		b, c := d.Step(a, 'b'), d.Step(a, 'c')
		if rules := [4]int{d.Accepts(0), d.Accepts(a), d.Accepts(b), d.Accepts(c)}; rules != [4]int{-1, 2, 0, 1} {
			t.Errorf("Accepts: %v", rules)
		}
		for at, want := range map[int]string{0: "a", a: "bc", b: "", c: ""} {
			for _, x := range allBytes {
				if to := d.Step(at, x); (to >= 0) != (strings.IndexByte(want, x) >= 0) {
					t.Errorf("Step of %d by %q: %d", at, x, to)
				}
			}
		}
	}
}

// P12.3: places that are outside, and those at the ends.
func TestPlaces(t *testing.T) {
	empty, full := made(t, "a*"), made(t, "a+")
	for _, s := range []string{"", "a", "aaaa"} {
		for _, at := range []int{-1, -2, math.MinInt, len(s) + 1, len(s) + 2, math.MaxInt} {
			for _, d := range []*dfas.DFA{empty.dfa, empty.least, full.dfa, full.least} {
				holdMatch(t, d, s, at, 0, -1, 0)
			}
		}
		for at := range len(s) {
			holdMatch(t, full.dfa, s, at, len(s)-at, 0, len(s)-at)
			holdMatch(t, full.least, s, at, len(s)-at, 0, len(s)-at)
		}
		holdMatch(t, empty.dfa, s, len(s), 0, 0, 0)
		holdMatch(t, empty.least, s, len(s), 0, 0, 0)
		holdMatch(t, full.dfa, s, len(s), 0, -1, 0)
		holdMatch(t, full.least, s, len(s), 0, -1, 0)
	}
}

// P12.3, P12.6: the longest beginning, of it the least rule, and how many bytes led on, said by hand.
func TestMatch(t *testing.T) {
	r := made(t, "let", "[a-z]+", "[a-z]+=", "=|==", "=", "", "x[0-9]*!", "//[^\n]*\n?")
	for _, x := range []struct {
		s                     string
		at, long, rule, steps int
	}{
		{"let", 0, 3, 0, 3}, {"lets", 0, 4, 1, 4}, {"le", 0, 2, 1, 2}, {"let=", 0, 4, 2, 4}, {"let==", 0, 4, 2, 4}, {"let", 1, 2, 1, 2}, {"let", 3, 0, 5, 0},
		{"==", 0, 2, 3, 2}, {"=", 0, 1, 3, 1}, {"===", 0, 2, 3, 2}, {"===", 2, 1, 3, 1}, {"1", 0, 0, 5, 0}, {"", 0, 0, 5, 0}, {"a1", 1, 0, 5, 0},
		{"x123", 0, 1, 1, 4}, {"x123!!", 0, 5, 6, 5}, {"x123=", 0, 1, 1, 4}, {"xx1!", 0, 2, 1, 2}, {"xx1!", 1, 3, 6, 3},
		{"/", 0, 0, 5, 1}, {"/a", 0, 0, 5, 1}, {"//", 0, 2, 7, 2}, {"//é\xff\n\n", 0, 6, 7, 6},
	} {
		holdMatch(t, r.dfa, x.s, x.at, x.long, x.rule, x.steps)
		holdMatch(t, r.least, x.s, x.at, x.long, x.rule, x.steps)
	}
	// Ways that lead further, and to no rule, are steps, and no match.
	r = made(t, "a(bcde)?", "abc")
	for s, want := range map[string][3]int{"abcde": {5, 0, 5}, "abcdx": {3, 1, 4}, "abcx": {3, 1, 3}, "abx": {1, 0, 2}, "bcde": {0, -1, 0}, "abcdee": {5, 0, 5}} {
		holdMatch(t, r.dfa, s, 0, want[0], want[1], want[2])
		holdMatch(t, r.least, s, 0, want[0], want[1], want[2])
	}
}

// P12.3, P12.4, P12.6: ways that lead to no text are steps of what Make tells, and none of what Min tells.
func TestNoText(t *testing.T) {
	for _, x := range []struct {
		rules         []string
		s             string
		long, rule    int
		made, least   int
		states, leave int
	}{
		{[]string{`a[^\x00-\xff]`}, "ab", 0, -1, 1, 0, 2, 1},
		{[]string{`a*[^\x00-\xff]`}, "aaab", 0, -1, 3, 0, 1, 1},
		{[]string{`(ab)*[^\x00-\xff]`}, "abab", 0, -1, 4, 0, 0, 1},
		{[]string{`ab[^\x00-\xff]`, "a"}, "ab", 1, 1, 2, 1, 3, 2},
		{[]string{`b[^\x00-\xff]c`, "a*"}, "ba", 0, 1, 1, 0, 0, 1},
		{[]string{`aab[^\x00-\xff]`, "a*c"}, "aabx", 0, -1, 3, 2, 0, 2},
		{[]string{`.*[^\x00-\xff]`, "ab"}, "abc", 2, 1, 3, 2, 0, 3},
	} {
		r := made(t, x.rules...)
		holdMatch(t, r.dfa, x.s, 0, x.long, x.rule, x.made)
		holdMatch(t, r.least, x.s, 0, x.long, x.rule, x.least)
		if got := r.dfa.States(); x.states > 0 && got != x.states {
			t.Errorf("States of Make of %q: %d, and not %d", x.rules, got, x.states)
		}
		if got := r.least.States(); got != x.leave {
			t.Errorf("States of Min of %q: %d, and not %d", x.rules, got, x.leave)
		}
		r.holdMake(t, allBytes)
		r.holdMin(t, allBytes)
	}
	// A state at the beginning that takes no text leads nowhere, also not to itself: there is just one Min.
	for _, rule := range []string{`[^\x00-\xff]`, `a[^\x00-\xff]`, `a*[^\x00-\xff]`, `.*\n[^\x00-\xff]`, `(a[^\x00-\xff])+`} {
		d := made(t, rule).least
		if d.States() != 1 || d.Accepts(0) != -1 {
			t.Errorf("%q: %d states, and the first one has the rule %d", rule, d.States(), d.Accepts(0))
		}
		for _, b := range allBytes {
			if to := d.Step(0, b); to != -1 {
				t.Errorf("%q: Step by %q: %d", rule, b, to)
			}
		}
	}
}

// way is one byte's of one state.
type way struct {
	at int
	b  byte
}

// P12.4: the numbers of Min's states, said by hand: state by state, and the lesser bytes first.
func TestOrder(t *testing.T) {
	for _, x := range []struct {
		rules []string
		ways  map[way]int
		ends  []int // the states' rules
	}{
		{[]string{"b|ac"}, map[way]int{{0, 'a'}: 1, {0, 'b'}: 2, {1, 'c'}: 2}, []int{-1, -1, 0}},
		{[]string{"aab|cd"}, map[way]int{{0, 'a'}: 1, {0, 'c'}: 2, {1, 'a'}: 3, {2, 'd'}: 4, {3, 'b'}: 4}, []int{-1, -1, -1, -1, 0}},
		{[]string{"cd|aab"}, map[way]int{{0, 'a'}: 1, {0, 'c'}: 2, {1, 'a'}: 3, {2, 'd'}: 4, {3, 'b'}: 4}, []int{-1, -1, -1, -1, 0}},
		{[]string{`\xff`, `\x00`, `\x80`, `\x7f`}, map[way]int{{0, 0}: 1, {0, 0x7f}: 2, {0, 0x80}: 3, {0, 0xff}: 4}, []int{-1, 1, 3, 2, 0}},
		{[]string{`a[^\x00-\xff]|b`}, map[way]int{{0, 'b'}: 1}, []int{-1, 0}},
		{[]string{`a[^\x00-\xff]|ba`, "c"}, map[way]int{{0, 'b'}: 1, {0, 'c'}: 2, {1, 'a'}: 3}, []int{-1, -1, 1, 0}},
		{[]string{"(a|b)*abb"}, map[way]int{{0, 'a'}: 1, {0, 'b'}: 0, {1, 'a'}: 1, {1, 'b'}: 2, {2, 'a'}: 1, {2, 'b'}: 3, {3, 'a'}: 1, {3, 'b'}: 0}, []int{-1, -1, -1, 0}},
		{[]string{"z|yz|xyz"}, map[way]int{{0, 'x'}: 1, {0, 'y'}: 2, {0, 'z'}: 3, {1, 'y'}: 2, {2, 'z'}: 3}, []int{-1, -1, -1, 0}},
		{[]string{"b+", "a?"}, map[way]int{{0, 'a'}: 1, {0, 'b'}: 2, {2, 'b'}: 2}, []int{1, 1, 0}},
		{[]string{""}, nil, []int{0}},
	} {
		d := made(t, x.rules...).least
		if d.States() != len(x.ends) {
			t.Errorf("States of %q: %d", x.rules, d.States())
		}
		for at, rule := range x.ends {
			if got := d.Accepts(at); got != rule {
				t.Errorf("Accepts of %d of %q: %d, and not %d", at, x.rules, got, rule)
			}
			for _, b := range allBytes {
				want, ok := x.ways[way{at, b}]
				if !ok {
					want = -1
				}
				if got := d.Step(at, b); got != want {
					t.Errorf("Step of %d by %q of %q: %d, and not %d", at, b, x.rules, got, want)
				}
			}
		}
	}
}

// P12.6: there is just one Min: rules that have the same texts have the same one.
func TestOne(t *testing.T) {
	for _, l := range [][][]string{
		{{"a|ab"}, {"ab?"}, {"ab|a"}, {"a(b|)"}, {"(a)(b)?"}, {"a|ab", "ab"}},
		{{"a*"}, {"(a*)*"}, {"a*a*"}, {"(a|aa)*"}, {"a+|"}, {"(a?)*"}, {"a?(aa)*|(aa)*a"}, {"a*", "a*"}, {"a*", "aaa"}},
		{{"a+"}, {"aa*"}, {"a*a"}, {"(a+)+"}, {"a|aa+"}},
		{{"[a-c]x"}, {"ax|bx|cx"}, {"(c|b|a)x"}, {"[abc]x"}, {"[abc]x", "bx"}},
		{{`[^\x00-\xff]`}, {`a[^\x00-\xff]`}, {`.*[^\x00-\xff]`}, {`[^\x00-\xff]`, `b[^\x00-\xff]`}},
		{{"(a|b)*abb"}, {"(a*b*)*abb"}, {"((a|b)*a)bb"}, {"(b|a|ab|ba)*abb"}, {`(a|b|[^\x00-\xff]c)*abb|cc[^\x00-\xff]`}},
		{{"", "a"}, {"()", "a|"}, {"()*", "a?"}, {"()?", `a|[^\x00-\xff]b`}},
		{{".*", `\n`}, {`[^\n]*`, `\n|.`}, {"(.)*", `[\n]|a`}},
	} {
		want := made(t, l[0]...).least
		for _, rules := range l[1:] {
			holdSame(t, made(t, rules...).least, want)
			if t.Failed() {
				t.Fatalf("(of the rules %q)", rules)
			}
		}
	}
}

// P12.4, P12.6: rules that say the same in many ways are put together again, also where it takes long to tell states apart.
func TestFar(t *testing.T) {
	as := strings.Repeat("a", 90)
	r := made(t, "("+as+")*", "("+as+as+")*b?")
	if got := r.least.States(); got != 181 {
		t.Errorf("States: %d", got)
	}
	r.holdMin(t, []byte("ab"))
	// Which of two letters came first is told 20 letters later only; or not at all.
	long := strings.Repeat("[xy]", 20)
	r = made(t, "a"+long, "b"+long)
	if got := r.least.States(); got != 43 {
		t.Errorf("States: %d", got)
	}
	r.holdMin(t, []byte("abxy"))
	r = made(t, "a"+long+"|b"+long)
	if got := r.least.States(); got != 22 {
		t.Errorf("States: %d", got)
	}
	r.holdMin(t, []byte("abxy"))
}

// P12.1 to P12.4, P12.6: all short rules, and all short texts.
func TestShort(t *testing.T) {
	rules := rulesOf(textsOf("ab|*+?()", 5))
	if len(rules) < 3000 {
		t.Errorf("only %d of the texts are rules", len(rules))
	}
	texts := append(textsOf("ab", 3), "c", "ac", "ca", "bcb")
	for _, s := range rules {
		holdRules(t, []byte("abc\x00\xff"), texts, s)
	}
}

// P12.1 to P12.4, P12.6: all pairs of shorter rules, and some more behind them; also those that have no text.
func TestPairs(t *testing.T) {
	texts := textsOf("ab", 3)
	rules := rulesOf(textsOf("ab|*", 3))
	rules = append(rules, `[^\x00-\xff]`, `a[^\x00-\xff]`, `a*[^\x00-\xff]`, `ab[^\x00-\xff]|b`)
	for _, first := range rules {
		for _, second := range rules {
			holdRules(t, []byte("ab"), texts, first, second)
		}
	}
	few := rulesOf(textsOf("ab*", 2))
	for _, first := range few {
		for _, second := range few {
			for _, third := range few {
				holdRules(t, []byte("ab"), texts, first, second, third)
			}
		}
	}
}

// P12.1 to P12.4: each byte, by each byte's rule.
func TestBytes(t *testing.T) {
	const digits = "0123456789abcdef"
	for i := range 256 {
		hex := `\x` + digits[i/16:i/16+1] + digits[i%16:i%16+1]
		r := made(t, hex, "[^"+hex+"]", hex+hex)
		for b := range 256 {
			s, rule, long := string([]byte{byte(b), byte(i)}), 1, 1
			if b == i {
				rule, long = 2, 2
			}
			holdMatch(t, r.dfa, s, 0, long, rule, long)
			holdMatch(t, r.least, s, 0, long, rule, long)
		}
		if got := r.least.States(); got != 4 {
			t.Errorf("States of %q: %d", r.texts, got)
		}
		// What is behind a, and behind b, is told apart by that byte alone; what is behind a and it, and behind b, is one.
		r = made(t, "a"+hex+"?d|bd")
		if got := r.least.States(); got != 4 && i != 'd' {
			t.Errorf("States of %q: %d", r.texts, got)
		}
		r.holdMake(t, allBytes)
		r.holdMin(t, allBytes)
	}
}

// P12.1 to P12.4, P12.6: the rules that limner has (chapter 13), with all bytes.
func TestCode(t *testing.T) {
	texts := append(textsOf(`/*"\1.e-=a`+" \n", 3), "let x=1.5e", "1.5e+", "1.5e-7x", "/*a/*b*/", `"a\q`, "a1_é", "->", "|||", "&", "//a\nb", "\xff", "1e999")
	for _, l := range [][]string{code(), {`[^"\\\n]+`, `\\[nrt"\\0]`, `"`, `\n`}, {`/\*`, `\*/`, `[^\*/]+`, `[\*/]`}} {
		r := made(t, l...)
		r.holdMake(t, allBytes)
		r.holdMin(t, allBytes)
		for _, s := range texts {
			r.holdText(t, s)
		}
	}
}

// someNode is a node of some of the letters a, b and c.
func someNode(source *rand.Rand, deep int) regs.Node {
	kind := regs.Empty + source.Intn(7)
	if deep == 0 && kind > regs.Bytes {
		kind = regs.Bytes
	}
	n := regs.Node{Kind: kind}
	kids := 0
	switch kind {
	case regs.Bytes:
		for _, b := range "abc" {
			n.Set[b/64] |= uint64(source.Intn(2)) << (b % 64)
		}
	case regs.Cat, regs.Alt:
		kids = 2 + source.Intn(3)
	case regs.Star, regs.Plus, regs.Maybe:
		kids = 1
	}
	for range kids {
		n.Kids = append(n.Kids, someNode(source, deep-1))
	}
	return n
}

// someText is a text of the letters a, b, c and d.
func someText(source *rand.Rand, most int) string {
	b := make([]byte, source.Intn(most+1))
	for i := range b {
		b[i] = "abcabcabcd"[source.Intn(10)]
	}
	return string(b)
}

// P12.1 to P12.4, P12.6: rules and texts by chance.
func TestSome(t *testing.T) {
	source := rand.New(rand.NewSource(12))
	for range 4000 {
		var rules []string
		for range 1 + source.Intn(4) {
			s := regs.Show(someNode(source, 1+source.Intn(4)))
			if len(s) <= api.MaxRule {
				rules = append(rules, s)
			}
		}
		if len(rules) == 0 {
			continue
		}
		n, e := nfas.Make(rules)
		if e != api.OK {
			t.Fatalf("%q: %v", rules, e)
		}
		if d, e := dfas.Make(n); e == api.ErrState || d.States() > 200 {
			continue
		}
		var texts []string
		for range 12 {
			texts = append(texts, someText(source, 16))
		}
		holdRules(t, []byte("abcd"), texts, rules...)
	}
}

// P12.5, R3: those that are nil, or that Make and Min did not make.
func TestNone(t *testing.T) {
	for _, d := range []*dfas.DFA{nil, {}, new(dfas.DFA)} {
		if m := d.Min(); m != nil {
			t.Errorf("Min: %v", m)
		}
		if n := d.States(); n != 0 {
			t.Errorf("States: %d", n)
		}
		for _, at := range []int{0, 1, -1, math.MinInt, math.MaxInt} {
			if rule := d.Accepts(at); rule != -1 {
				t.Errorf("Accepts of %d: %d", at, rule)
			}
			if to := d.Step(at, 'a'); to != -1 {
				t.Errorf("Step of %d: %d", at, to)
			}
			for _, s := range []string{"", "a", "aab"} {
				holdMatch(t, d, s, at, 0, -1, 0)
			}
		}
	}
}

// R2, R4: what was asked is as it was, and asked again it tells the same; another one of the same rules tells the same, too; and Min leaves what it is made of.
func TestAgain(t *testing.T) {
	rules := []string{"(a|b)*abb", "a+", "", "[^a]b?", `c[^\x00-\xff]`}
	r, other := made(t, rules...), made(t, rules...)
	start := r.nfa.Start()
	for range 3 {
		d, e := dfas.Make(r.nfa)
		if e != api.OK {
			t.Fatal(e)
		}
		holdSame(t, d, r.dfa)
		holdSame(t, other.dfa, r.dfa)
		holdSame(t, r.dfa.Min(), r.least)
		holdSame(t, other.least, r.least)
		if d.Min() == d || r.dfa.Min() == r.least || r.least.Min() == r.least {
			t.Error("Min tells one that was told")
		}
		r.holdMake(t, allBytes)
		r.holdMin(t, allBytes)
		for _, s := range textsOf("abc", 4) {
			r.holdText(t, s)
		}
		if l := r.nfa.Start(); !slices.Equal(l, start) {
			t.Errorf("the NFA begins with %v, and not %v", l, start)
		}
	}
}

// R1: rules that lead round without a byte, and texts that are long, come to an end, soon.
func TestEnds(t *testing.T) {
	as := strings.Repeat("a", 1<<17)
	for rule, want := range map[string]struct{ long, steps int }{
		"(a*)*b":    {0, len(as)},
		"(a|a)*b":   {0, len(as)},
		"((a*)*)*":  {len(as), len(as)},
		"(()*)*a":   {1, 1},
		"(|())+":    {0, 0},
		"((|a)+)+?": {len(as), len(as)},
		strings.Repeat("(", 66) + "a" + strings.Repeat(")*", 66): {len(as), len(as)},
		strings.Repeat("a?", 50) + strings.Repeat("a", 50):       {100, 100},
		strings.Repeat("a*", 100):                                {len(as), len(as)},
	} {
		r := made(t, rule)
		rule := 0
		if want.long == 0 && want.steps > 0 {
			rule = -1
		}
		for _, d := range []*dfas.DFA{r.dfa, r.least} {
			holdMatch(t, d, as, 0, want.long, rule, want.steps)
			holdMatch(t, d, as+"d", 0, want.long, rule, want.steps)
		}
	}
	r := made(t, "[ab]*c?", "a*")
	s := strings.Repeat("ab", 1<<15)
	for _, d := range []*dfas.DFA{r.dfa, r.least} {
		holdMatch(t, d, s, 0, len(s), 0, len(s))
		holdMatch(t, d, s+"c", 1, len(s), 0, len(s))
		holdMatch(t, d, s+"d"+s, 0, len(s), 0, len(s))
		holdMatch(t, d, "d"+s, 0, 0, 0, 0)
		holdMatch(t, d, s+"cc", len(s), 1, 0, 1)
	}
}
