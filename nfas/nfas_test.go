package nfas_test

import (
	"math"
	"math/rand"
	"slices"
	"strconv"
	"strings"
	"testing"

	"limner/api"
	"limner/nfas"
	"limner/regs"
)

// What the document says of rules and their texts, written out once more, to hold the package against: there are no states, but sets of places of a whole text (of less than 64 bytes; bit i: the place i), and what a node makes of them.

type places uint64

// behind is the places that are behind a text of a node that begins at one of some places.
func behind(n regs.Node, s string, from places) places {
	to := from
	switch n.Kind {
	case regs.Bytes:
		to = 0
		for i := range len(s) {
			if from>>i&1 == 1 && n.Set[s[i]/64]>>(s[i]%64)&1 == 1 {
				to |= 1 << (i + 1)
			}
		}
	case regs.Cat:
		for _, kid := range n.Kids {
			to = behind(kid, s, to)
		}
	case regs.Alt:
		to = 0
		for _, kid := range n.Kids {
			to |= behind(kid, s, from)
		}
	case regs.Plus:
		return times(n.Kids[0], s, behind(n.Kids[0], s, from))
	case regs.Star:
		return times(n.Kids[0], s, from)
	case regs.Maybe:
		to |= behind(n.Kids[0], s, from)
	}
	return to
}

// times is the places from that are behind any number of texts of a node.
func times(n regs.Node, s string, from places) places {
	for {
		to := from | behind(n, s, from)
		if to == from {
			return to
		}
		from = to
	}
}

// nodesOf is the rules' trees.
func nodesOf(t *testing.T, rules []string) []regs.Node {
	t.Helper()
	nodes := make([]regs.Node, len(rules))
	for i, s := range rules {
		n, e := regs.Parse(s)
		if e != api.OK {
			t.Fatalf("%q: %v", s, e)
		}
		nodes[i] = n
	}
	return nodes
}

// ruleOf is the least number of a rule that a text is of; -1: none.
func ruleOf(nodes []regs.Node, s string) int {
	for i, n := range nodes {
		if behind(n, s, 1)>>len(s)&1 == 1 {
			return i
		}
	}
	return -1
}

// matchOf is what Match has to tell.
func matchOf(nodes []regs.Node, s string, at int) (long, rule int) {
	if at < 0 || at > len(s) {
		return 0, -1
	}
	for to := len(s); to >= at; to-- {
		if r := ruleOf(nodes, s[at:to]); r >= 0 {
			return to - at, r
		}
	}
	return 0, -1
}

// made is an NFA of rules that are some.
func made(t *testing.T, rules ...string) *nfas.NFA {
	t.Helper()
	n, e := nfas.Make(rules)
	if e != api.OK || n == nil {
		t.Fatalf("Make of %q: %v, %v", rules, n, e)
	}
	return n
}

// holdList holds a list of states against P11.3.
func holdList(t *testing.T, l []int) {
	t.Helper()
	for i, at := range l {
		if at < 0 || i > 0 && at <= l[i-1] {
			t.Fatalf("%v is not rising, from 0 on", l)
		}
	}
}

// walk is the states behind a text.
func walk(t *testing.T, n *nfas.NFA, s string) []int {
	t.Helper()
	l := n.Start()
	holdList(t, l)
	for i := range len(s) {
		l = n.Step(l, s[i])
		holdList(t, l)
	}
	return l
}

// holdMatch holds Match of a text, at each place of it and around it, against the document.
func holdMatch(t *testing.T, n *nfas.NFA, nodes []regs.Node, s string) {
	t.Helper()
	for at := -1; at <= len(s)+1; at++ {
		long, rule := n.Match(s, at)
		if l, r := matchOf(nodes, s, at); long != l || rule != r {
			t.Errorf("Match of %q, %d: %d, %d, and not %d, %d", s, at, long, rule, l, r)
		}
	}
}

// holdText holds all that is told of a text against the document.
func holdText(t *testing.T, n *nfas.NFA, nodes []regs.Node, s string) {
	t.Helper()
	if got, want := n.Accepts(walk(t, n, s)), ruleOf(nodes, s); got != want {
		t.Errorf("Accepts behind %q: %d, and not %d", s, got, want)
	}
	holdMatch(t, n, nodes, s)
}

// textsOf is all texts of some letters that have at most so many of them.
func textsOf(letters string, most int) []string {
	l := []string{""}
	for from := 0; most > 0; most-- {
		to := len(l)
		for _, s := range l[from:to] {
			for i := range len(letters) {
				l = append(l, s+letters[i:i+1])
			}
		}
		from = to
	}
	return l
}

// rulesOf is those of some texts that are rules'.
func rulesOf(texts []string) []string {
	var l []string
	for _, s := range texts {
		if _, e := regs.Parse(s); e == api.OK {
			l = append(l, s)
		}
	}
	return l
}

// holdRules holds all that is told of rules against the document, for some texts.
func holdRules(t *testing.T, rules []string, texts []string) {
	t.Helper()
	n, nodes := made(t, rules...), nodesOf(t, rules)
	for _, s := range texts {
		holdText(t, n, nodes, s)
	}
	if t.Failed() {
		t.Fatalf("(of the rules %q)", rules)
	}
}

// P11.1, P11.2: the document's examples.
func TestExamples(t *testing.T) {
	n := made(t, "a*", "ab", "b")
	for _, x := range []struct {
		s              string
		at, long, rule int
	}{{"aab", 0, 2, 0}, {"ab", 0, 2, 1}, {"aab", 2, 1, 2}, {"c", 0, 0, 0}, {"c", 2, 0, -1}} {
		if long, rule := n.Match(x.s, x.at); long != x.long || rule != x.rule {
			t.Errorf("Match of %q, %d: %d, %d", x.s, x.at, long, rule)
		}
	}
	holdError(t, nil, api.ErrArg)
	holdError(t, []string{"a", "("}, api.ErrForm)
}

// holdError holds Make of rules that are none.
func holdError(t *testing.T, rules []string, want api.Errno) {
	t.Helper()
	if n, e := nfas.Make(rules); e != want || n != nil {
		t.Errorf("Make of %d rules: %v, %v, and not %v", len(rules), n, e, want)
	}
}

// many is a list of a text, so many times.
func many(s string, n int) []string {
	return slices.Repeat([]string{s}, n)
}

// P11.1, R5: what Make refuses, and which error it tells where several could be.
func TestErrors(t *testing.T) {
	long, longest := strings.Repeat("a", 201), strings.Repeat("a", 200)
	for _, x := range []struct {
		rules []string
		want  api.Errno
	}{
		{nil, api.ErrArg},
		{[]string{}, api.ErrArg},
		{many("a", 65), api.ErrArg},
		{many("", 65), api.ErrArg},
		{many("a", 1000), api.ErrArg},
		{many("(", 65), api.ErrArg},
		{many(long, 65), api.ErrArg},
		{many(longest, 65), api.ErrArg},
		{[]string{"("}, api.ErrForm},
		{append(many("a", 63), "*"), api.ErrForm},
		{[]string{long}, api.ErrLong},
		{append(many("a", 63), long), api.ErrLong},
		{[]string{"a", ")", long}, api.ErrForm},
		{[]string{"a", long, ")"}, api.ErrLong},
		{[]string{strings.Repeat("(", 201), ")"}, api.ErrLong},
		{append(many(longest, 11), "["), api.ErrForm},
		{append(many(longest, 11), long), api.ErrLong},
		{append(many(longest, 10), "a"), api.ErrState},
		{append([]string{"a"}, many(longest, 10)...), api.ErrState},
		{many(strings.Repeat("a", 32), 63), api.ErrState},
		{many(longest, 64), api.ErrState},
		// Bytes of the texts are told, not letters, and not states.
		{append(many(strings.Repeat(`\x61`, 50), 10), "a"), api.ErrState},
		{append(many(strings.Repeat("(", 100)+strings.Repeat(")", 100), 10), "()"), api.ErrState},
		{append(many("["+strings.Repeat("a", 198)+"]", 10), "a"), api.ErrState},
		{append(many(strings.Repeat("é", 100), 10), "é"), api.ErrState},
	} {
		holdError(t, x.rules, x.want)
	}
}

// P11.1: what is just not too much is taken, and works to its end: how many of 60 letters a the longest match has, and of which rule it is.
func TestLimits(t *testing.T) {
	longest := strings.Repeat("a", 200)
	s := strings.Repeat("a", 60)
	for i, x := range []struct {
		rules      []string
		long, rule int
	}{
		{[]string{longest}, 0, -1},
		{many("a", 64), 1, 0},
		{many("", 64), 0, 0},
		{many(longest, 10), 0, -1},
		{append(many(longest, 9), many("aaa", 55)...), 3, 9},
		{append(many(longest, 10), many("", 54)...), 0, 10},
		{many(strings.Repeat(`\x61`, 50), 10), 50, 0},
		{many(strings.Repeat("a*", 100), 10), 60, 0},
		{many(strings.Repeat("|", 200), 10), 0, 0},
		{many("a"+strings.Repeat("+", 199), 10), 60, 0},
		{many("a"+strings.Repeat("*", 199), 10), 60, 0},
		{many("a"+strings.Repeat("?", 199), 10), 1, 0},
		{many(strings.Repeat("(", 99)+"aa"+strings.Repeat(")", 99), 10), 2, 0},
		{many(strings.Repeat("(", 100)+strings.Repeat(")", 100), 10), 0, 0},
	} {
		n := made(t, x.rules...)
		if long, rule := n.Match(s+"b", 0); long != x.long || rule != x.rule {
			t.Errorf("%d: Match: %d, %d, and not %d, %d", i, long, rule, x.long, x.rule)
		}
		if x.rule < 0 {
			continue
		}
		if rule := n.Accepts(walk(t, n, s[:x.long])); rule != x.rule {
			t.Errorf("%d: Accepts: %d, and not %d", i, rule, x.rule)
		}
		if long, rule := n.Match("b", 0); rule >= 0 && long != 0 {
			t.Errorf("%d: Match of another letter: %d, %d", i, long, rule)
		}
	}
	n := made(t, many(longest, 10)...)
	for s, want := range map[string][2]int{longest: {200, 0}, longest + "a": {200, 0}, longest[1:]: {0, -1}, longest[1:] + "b": {0, -1}} {
		if long, rule := n.Match(s, 0); long != want[0] || rule != want[1] {
			t.Errorf("Match of %d bytes: %d, %d", len(s), long, rule)
		}
	}
}

// P11.1: rules have the numbers 0, 1 and so on, up to 63.
func TestNumbers(t *testing.T) {
	var rules []string
	for i := range 64 {
		rules = append(rules, "x"+strconv.Itoa(i))
	}
	n := made(t, rules...)
	for i, s := range rules {
		if got := n.Accepts(walk(t, n, s)); got != i {
			t.Errorf("Accepts behind %q: %d", s, got)
		}
		if long, rule := n.Match(s+"!", 0); long != len(s) || rule != i {
			t.Errorf("Match of %q: %d, %d", s, long, rule)
		}
	}
	for i := range 64 {
		alike := append(many("b", i), many("a", 64-i)...)
		if long, rule := made(t, alike...).Match("a", 0); long != 1 || rule != i {
			t.Errorf("%d other rules ahead: %d, %d", i, long, rule)
		}
	}
}

// P11.2: what a text is of, for each kind of node, said by hand.
func TestKinds(t *testing.T) {
	for rule, x := range map[string]struct{ in, out string }{
		"":             {"_", "a"},
		"()":           {"_", "a"},
		"a":            {"a", "_ b aa ab ba"},
		"ab":           {"ab", "_ a b ba abb aab"},
		"a()b":         {"ab", "_ a b a()b"},
		"a|b":          {"a b", "_ ab ba c"},
		"a|":           {"_ a", "b aa"},
		"a|bc|abc":     {"a bc abc", "_ b c ab abbc"},
		"a*":           {"_ a aa aaaaaaaa", "b ab ba"},
		"a+":           {"a aa aaaaaaaa", "_ b ab ba"},
		"a?":           {"_ a", "b aa"},
		"()*":          {"_", "a"},
		"()+":          {"_", "a"},
		"()?":          {"_", "a"},
		"(a|)+":        {"_ a aa", "b ab"},
		"(|a)*":        {"_ a aa", "b ab"},
		"(a*)*":        {"_ a aa", "b ab"},
		"(a+)+":        {"a aa", "_ b ab"},
		"(a?)+":        {"_ a aa aaa", "b ab"},
		"a+*":          {"_ a aa", "b"},
		"a?+":          {"_ a aa", "b"},
		"a+?":          {"_ a aa", "b"},
		"(ab)+":        {"ab abab", "_ a aba abb aab"},
		"(ab)*":        {"_ ab abab", "a aba"},
		"(ab)?":        {"_ ab", "a b abab"},
		"(a|b)*abb":    {"abb aabb babb abbabb", "_ ab abba bb"},
		"(a*b*)*":      {"_ a b ab ba abab", "c"},
		"(a+b)+":       {"ab aab abaab", "_ a b ba abb"},
		"a*b+c?":       {"b ab bbc aabbc", "_ a c ac abcc ba"},
		"(a*b)+a":      {"ba aba bba abaaba", "_ a aa ab"},
		"[a-c]":        {"a b c", "_ d ab"},
		"[^a-c]":       {"d \n \xff", "_ a b c dd"},
		`[^\x00-\xff]`: {"", "_ a b ab \x00"},
		".":            {"a \r \x00 \xff", "_ \n aa"},
		`\n`:           {"\n", "_ n a"},
		`.*\n`:         {"\n a\n ab\n", "_ a \n\n a\nb"},
		`\xff`:         {"\xff", "_ \x7f \xfe ff"},
		"é":            {"é", "_ \xc3 \xa9 éé"},
	} {
		n := made(t, rule)
		for _, s := range strings.Split(x.in, " ") {
			holdOne(t, n, rule, s, x.in != "")
		}
		for _, s := range strings.Split(x.out, " ") {
			holdOne(t, n, rule, s, false)
		}
	}
}

// holdOne holds whether a text (_: nothing) is of the one rule there is.
func holdOne(t *testing.T, n *nfas.NFA, rule, s string, want bool) {
	t.Helper()
	if s == "_" {
		s = ""
	}
	if got := n.Accepts(walk(t, n, s)) == 0; got != want {
		t.Errorf("%q is of %q: %t", s, rule, got)
	}
	if long, r := n.Match(s, 0); want != (long == len(s) && r == 0) {
		t.Errorf("Match of %q by %q: %d, %d", s, rule, long, r)
	}
}

// P11.2: the longest beginning, and of it the least rule; nothing, too, where that is of one.
func TestLongest(t *testing.T) {
	n := made(t, "let", "[a-z]+", "[a-z]+=", "=|==", "=", "")
	for _, x := range []struct {
		s              string
		at, long, rule int
	}{
		{"let", 0, 3, 0}, {"lets", 0, 4, 1}, {"le", 0, 2, 1}, {"let=", 0, 4, 2}, {"let==", 0, 4, 2}, {"let", 1, 2, 1}, {"let", 3, 0, 5},
		{"==", 0, 2, 3}, {"=", 0, 1, 3}, {"===", 0, 2, 3}, {"===", 2, 1, 3}, {"1", 0, 0, 5}, {"", 0, 0, 5}, {"a1", 1, 0, 5},
	} {
		if long, rule := n.Match(x.s, x.at); long != x.long || rule != x.rule {
			t.Errorf("Match of %q, %d: %d, %d", x.s, x.at, long, rule)
		}
	}
	// Ways that lead further, and to no rule, are no match.
	n = made(t, "a(bcde)?", "abc")
	for s, want := range map[string][2]int{"abcde": {5, 0}, "abcd": {3, 1}, "abc": {3, 1}, "ab": {1, 0}, "bcde": {0, -1}} {
		if long, rule := n.Match(s, 0); long != want[0] || rule != want[1] {
			t.Errorf("Match of %q: %d, %d", s, long, rule)
		}
	}
}

// P11.2: places that are outside, and those at the ends.
func TestPlaces(t *testing.T) {
	empty, full := made(t, "a*"), made(t, "a+")
	for _, s := range []string{"", "a", "aaaa"} {
		for _, at := range []int{-1, -2, math.MinInt, len(s) + 1, len(s) + 2, math.MaxInt} {
			for _, n := range []*nfas.NFA{empty, full} {
				if long, rule := n.Match(s, at); long != 0 || rule != -1 {
					t.Errorf("Match of %q, %d: %d, %d", s, at, long, rule)
				}
			}
		}
		for at := range len(s) {
			long, rule := full.Match(s, at)
			if long != len(s)-at || rule != 0 {
				t.Errorf("Match of %q, %d: %d, %d", s, at, long, rule)
			}
		}
		if long, rule := empty.Match(s, len(s)); long != 0 || rule != 0 {
			t.Errorf("Match of %q at its end: %d, %d", s, long, rule)
		}
		if long, rule := full.Match(s, len(s)); long != 0 || rule != -1 {
			t.Errorf("Match of %q at its end: %d, %d", s, long, rule)
		}
	}
}

// P11.2, P11.3, P11.5: all short rules, and all short texts.
func TestShort(t *testing.T) {
	rules := rulesOf(textsOf("ab|*+?()", 6))
	if len(rules) < 20000 {
		t.Errorf("only %d of the texts are rules", len(rules))
	}
	texts := append(textsOf("ab", 4), "c", "ac", "ca", "bcb")
	for _, s := range rules {
		holdRules(t, []string{s}, texts)
	}
}

// P11.2, P11.3, P11.5: all pairs of shorter rules, and some more behind them.
func TestPairs(t *testing.T) {
	rules := rulesOf(textsOf("ab|*", 3))
	texts := textsOf("ab", 3)
	for _, first := range rules {
		for _, second := range rules {
			holdRules(t, []string{first, second}, texts)
		}
	}
	few := rulesOf(textsOf("ab*", 2))
	for _, first := range few {
		for _, second := range few {
			for _, third := range few {
				holdRules(t, []string{first, second, third}, texts)
			}
		}
	}
}

// P11.2, P11.3: each byte, by each byte's rule.
func TestBytes(t *testing.T) {
	const digits = "0123456789abcdef"
	for i := range 256 {
		hex := digits[i/16:i/16+1] + digits[i%16:i%16+1]
		n := made(t, `\x`+hex, `[^\x`+hex+`]`, `\x`+hex+`\x`+hex)
		for b := range 256 {
			want := 0
			if b != i {
				want = 1
			}
			s := string([]byte{byte(b)})
			if long, rule := n.Match(s, 0); long != 1 || rule != want {
				t.Errorf("rule %s, byte %d: %d, %d", hex, b, long, rule)
			}
			if got := n.Accepts(n.Step(n.Start(), byte(b))); got != want {
				t.Errorf("rule %s, byte %d: %d", hex, b, got)
			}
			two := n.Accepts(n.Step(n.Step(n.Start(), byte(i)), byte(b)))
			if b == i && two != 2 || b != i && two != -1 {
				t.Errorf("rule %s twice, byte %d: %d", hex, b, two)
			}
		}
	}
}

// someNode is a node of some of the letters a, b and c.
func someNode(source *rand.Rand, deep int) regs.Node {
	kind := regs.Empty + source.Intn(7)
	if deep == 0 && kind > regs.Bytes {
		kind = regs.Bytes
	}
	n := regs.Node{Kind: kind}
	kids := 0
	switch kind {
	case regs.Bytes:
		for _, b := range "abc" {
			n.Set[b/64] |= uint64(source.Intn(2)) << (b % 64)
		}
	case regs.Cat, regs.Alt:
		kids = 2 + source.Intn(3)
	case regs.Star, regs.Plus, regs.Maybe:
		kids = 1
	}
	for range kids {
		n.Kids = append(n.Kids, someNode(source, deep-1))
	}
	return n
}

// someText is a text of the letters a, b, c and d.
func someText(source *rand.Rand, most int) string {
	b := make([]byte, source.Intn(most+1))
	for i := range b {
		// d is in no rule: it is rare, so that texts come far.
		b[i] = "aaaaabbbbbcccccd"[source.Intn(16)]
	}
	return string(b)
}

// P11.2, P11.3, P11.5: random rules, and random texts.
func TestRandom(t *testing.T) {
	source := rand.New(rand.NewSource(1))
	for range 3000 {
		rules := make([]string, 1+source.Intn(5))
		for i := range rules {
			for rules[i] == "" || len(rules[i]) > api.MaxRule {
				rules[i] = regs.Show(someNode(source, 4))
			}
		}
		texts := make([]string, 8)
		for i := range texts {
			texts[i] = someText(source, 20)
		}
		holdRules(t, rules, texts)
	}
}

// P11.5: with more rules behind, no match is shorter, and one that is as long is of the same rule; and what it tells is told without them, too, if it is of one of the first ones.
func TestMoreRules(t *testing.T) {
	source := rand.New(rand.NewSource(2))
	for range 2000 {
		rules := make([]string, 6)
		for i := range rules {
			for rules[i] == "" || len(rules[i]) > api.MaxRule {
				rules[i] = regs.Show(someNode(source, 3))
			}
		}
		s := someText(source, 20)
		wasLong, wasRule := 0, -1
		for i := 1; i <= len(rules); i++ {
			long, rule := made(t, rules[:i]...).Match(s, 0)
			if long < wasLong || long == wasLong && wasRule >= 0 && rule != wasRule || (long > wasLong || rule != wasRule) && rule != i-1 {
				t.Fatalf("Match of %q by %q: %d, %d; without the last one: %d, %d", s, rules[:i], long, rule, wasLong, wasRule)
			}
			wasLong, wasRule = long, rule
		}
	}
}

// P11.3: numbers of states that there are not make no difference, wherever they stand, nor does the order of those that there are, nor how often they are told.
func TestOtherStates(t *testing.T) {
	source := rand.New(rand.NewSource(3))
	others := []int{-1, -2, -64, math.MinInt, math.MaxInt, 1 << 20, 1 << 32, 1<<63 - 64, 10000}
	for _, rules := range [][]string{{"a"}, {""}, {"a*", "ab", "b"}, {"(a|b)*abb", "(ab?)+", "[^a]*"}, many(strings.Repeat("a?", 100), 10)} {
		n := made(t, rules...)
		for _, s := range textsOf("ab", 4) {
			l := walk(t, n, s)
			mixed := append(slices.Clone(l), others...)
			mixed = append(mixed, l...)
			source.Shuffle(len(mixed), func(i, j int) { mixed[i], mixed[j] = mixed[j], mixed[i] })
			if got, want := n.Accepts(mixed), n.Accepts(l); got != want {
				t.Errorf("%q, Accepts of %v: %d, and not %d", rules, mixed, got, want)
			}
			for b := range 256 {
				got, want := n.Step(mixed, byte(b)), n.Step(l, byte(b))
				holdList(t, got)
				if !slices.Equal(got, want) {
					t.Errorf("%q, Step of %v: %v, and not %v", rules, mixed, got, want)
				}
			}
		}
		if l := n.Step(others, 'a'); len(l) != 0 {
			t.Errorf("%q, Step of states that there are not: %v", rules, l)
		}
		if rule := n.Accepts(others); rule != -1 {
			t.Errorf("%q, Accepts of states that there are not: %d", rules, rule)
		}
	}
}

// P11.3, R1: each number that may be a state's, also just behind the last one: no call panics, and those that are met on no way tell nothing new.
func TestEachNumber(t *testing.T) {
	for _, rules := range [][]string{{"a"}, {""}, {"a*", "ab", "b"}, {"(a|b)*abb"}, many(strings.Repeat("a", 200), 10)} {
		n := made(t, rules...)
		var all []int
		for at := -10; at < 3000; at++ {
			all = append(all, at)
			for _, b := range []byte("ab\x00\xff") {
				holdList(t, n.Step([]int{at}, b))
			}
			if rule := n.Accepts([]int{at}); rule < -1 || rule >= len(rules) {
				t.Errorf("Accepts of %d: %d", at, rule)
			}
		}
		holdList(t, n.Step(all, 'a'))
		if rule := n.Accepts(all); rule != 0 {
			t.Errorf("Accepts of all: %d", rule)
		}
	}
}

// P11.3: of no states there are none behind, and no rule.
func TestNoStates(t *testing.T) {
	n := made(t, "a*", "")
	for _, l := range [][]int{nil, {}} {
		if got := n.Step(l, 'a'); len(got) != 0 {
			t.Errorf("Step of none: %v", got)
		}
		if rule := n.Accepts(l); rule != -1 {
			t.Errorf("Accepts of none: %d", rule)
		}
	}
	if l := n.Step(n.Start(), 'b'); len(l) != 0 {
		t.Errorf("Step by a byte that no rule has there: %v", l)
	}
	// What dfas calls an NFA has states at the beginning, also where no text is of a rule.
	for _, rule := range []string{"", "()", "a", "a*", `[^\x00-\xff]`, `[^\x00-\xff]a`, "()*", "(|)+"} {
		if l := made(t, rule).Start(); len(l) == 0 {
			t.Errorf("%q has no states at the beginning", rule)
		}
	}
}

// P11.4, R3: those that are nil, or that Make did not make.
func TestNone(t *testing.T) {
	for _, n := range []*nfas.NFA{nil, {}, new(nfas.NFA)} {
		for _, s := range []string{"", "a", "aab"} {
			for at := -1; at <= len(s)+1; at++ {
				if long, rule := n.Match(s, at); long != 0 || rule != -1 {
					t.Errorf("Match of %q, %d: %d, %d", s, at, long, rule)
				}
			}
		}
		if l := n.Start(); len(l) != 0 {
			t.Errorf("Start: %v", l)
		}
		for _, l := range [][]int{nil, {0}, {-1, 0, 1, 2}, {math.MinInt, math.MaxInt}} {
			if got := n.Step(l, 'a'); len(got) != 0 {
				t.Errorf("Step of %v: %v", l, got)
			}
			if rule := n.Accepts(l); rule != -1 {
				t.Errorf("Accepts of %v: %d", l, rule)
			}
		}
	}
}

// R2, R4: an NFA that was asked is as it was, and asked again it tells the same; another one of the same rules tells the same, too.
func TestAgain(t *testing.T) {
	rules := []string{"(a|b)*abb", "a+", "", "[^a]b?"}
	n, m := made(t, rules...), made(t, rules...)
	for range 3 {
		for _, s := range textsOf("abc", 4) {
			if x, y := walk(t, n, s), walk(t, m, s); !slices.Equal(x, y) {
				t.Errorf("behind %q: %v and %v", s, x, y)
			}
			long, rule := n.Match(s, 0)
			if l, r := m.Match(s, 0); long != l || rule != r {
				t.Errorf("Match of %q: %d, %d and %d, %d", s, long, rule, l, r)
			}
		}
	}
}

// R4: what is handed in stays as it was, and is not looked at later.
func TestHandedIn(t *testing.T) {
	rules := []string{"a*", "ab", "b"}
	was := slices.Clone(rules)
	n := made(t, rules...)
	if !slices.Equal(rules, was) {
		t.Errorf("Make changed %q to %q", was, rules)
	}
	clear(rules)
	for _, s := range textsOf("abc", 3) {
		holdText(t, n, nodesOf(t, was), s)
	}
	l := append(n.Start(), 7, 3, -1, 3)
	want := slices.Clone(l)
	behind := slices.Clone(n.Step(l, 'a'))
	n.Accepts(l)
	if !slices.Equal(l, want) {
		t.Errorf("Step and Accepts changed %v to %v", want, l)
	}
	clear(l)
	if got := n.Step(want, 'a'); !slices.Equal(got, behind) {
		t.Errorf("Step of %v: %v, and then %v", want, behind, got)
	}
}

// R4: lists that are told are the caller's own.
func TestOwnLists(t *testing.T) {
	n := made(t, "a*", "ab", "b")
	start := n.Start()
	was := slices.Clone(start)
	behind := n.Step(start, 'a')
	then := slices.Clone(behind)
	spoil(behind)
	if !slices.Equal(start, was) {
		t.Errorf("what Step tells shares its room with what it was handed: %v", start)
	}
	spoil(start)
	if got := n.Start(); !slices.Equal(got, was) {
		t.Errorf("Start: %v, and then %v", was, got)
	}
	if got := n.Step(was, 'a'); !slices.Equal(got, then) {
		t.Errorf("Step of %v: %v, and then %v", was, then, got)
	}
	if long, rule := n.Match("aab", 0); long != 2 || rule != 0 {
		t.Errorf("Match: %d, %d", long, rule)
	}
}

// spoil writes over a list, also behind its end.
func spoil(l []int) {
	l = l[:cap(l)]
	for i := range l {
		l[i] = -9
	}
}

// R1: rules that lead round without a byte, or that a text fits in very many ways, come to an end, soon.
func TestEnds(t *testing.T) {
	as := strings.Repeat("a", 3000)
	for rule, want := range map[string]int{
		"(a*)*b":    0,
		"(a|a)*b":   0,
		"((a*)*)*":  len(as),
		"(a*)*|b":   len(as),
		"(()*)*a":   1,
		"(|())+":    0,
		"(a?)*":     len(as),
		"((|a)+)+?": len(as),
		strings.Repeat("(", 66) + "a" + strings.Repeat(")*", 66): len(as),
		strings.Repeat("(", 66) + "a" + strings.Repeat(")+", 66): len(as),
		strings.Repeat("a?", 50) + strings.Repeat("a", 50):       100,
		strings.Repeat("a*", 100):                                len(as),
		"(" + strings.Repeat("a|", 98) + ")*":                    len(as),
	} {
		n := made(t, rule)
		if long, _ := n.Match(as, 0); long != want {
			t.Errorf("Match by %q: %d, and not %d", rule, long, want)
		}
		if long, _ := n.Match(as, len(as)); long != 0 {
			t.Errorf("Match by %q at the end: %d", rule, long)
		}
	}
	n := made(t, many("("+strings.Repeat("a?", 98)+")*", 10)...)
	if long, rule := n.Match(as, 0); long != len(as) || rule != 0 {
		t.Errorf("Match by ten rules at their longest: %d, %d", long, rule)
	}
}

// R1: a match ends where no state is left, however long the text is; and a long one is found whole.
func TestLongTexts(t *testing.T) {
	n := made(t, "[ab]*c?", "a*")
	s := strings.Repeat("ab", 1<<15)
	for _, x := range []struct {
		s              string
		at, long, rule int
	}{{s, 0, len(s), 0}, {s + "c", 1, len(s), 0}, {s + "d" + s, 0, len(s), 0}, {"d" + s, 0, 0, 0}, {s + "cc", len(s), 1, 0}} {
		if long, rule := n.Match(x.s, x.at); long != x.long || rule != x.rule {
			t.Errorf("Match of %d bytes, %d: %d, %d", len(x.s), x.at, long, rule)
		}
	}
}
