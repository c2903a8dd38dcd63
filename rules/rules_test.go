package rules_test

import (
	"math"
	"math/rand"
	"slices"
	"strings"
	"testing"

	"limner/api"
	"limner/nfas"
	"limner/regs"
	"limner/rules"
)

// What the document says of a rule, written out once more, to hold the package against.
type rule struct {
	text   string
	kind   int
	behind string // the state behind it: same, code, string, deeper or less
}

// said is the rules of the three modes.
var said = map[int][]rule{
	api.MoCode: {
		{"[ \\t\\r]+", api.TkSpace, "same"},
		{"\\n", api.TkLine, "same"},
		{"[a-zA-Z_][a-zA-Z0-9_]*", api.TkName, "same"},
		{"[0-9]+(\\.[0-9]+)?([eE][\\+\\-]?[0-9]+)?", api.TkNumber, "same"},
		{"//[^\\n]*", api.TkComment, "same"},
		{"/\\*", api.TkComment, "deeper"},
		{"\"", api.TkString, "string"},
		{"[\\(\\[{]", api.TkOpen, "same"},
		{"[\\)\\]}]", api.TkClose, "same"},
		{"[\\+\\-\\*/%<>!=,;:\\.]|==|!=|<=|>=|&&|\\|\\||\\->", api.TkOp, "same"},
	},
	api.MoString: {
		{"[^\"\\\\\\n]+", api.TkString, "same"},
		{"\\\\[nrt\"\\\\0]", api.TkEscape, "same"},
		{"\"", api.TkString, "code"},
		{"\\n", api.TkString, "same"},
	},
	api.MoComment: {
		{"/\\*", api.TkComment, "deeper"},
		{"\\*/", api.TkComment, "less"},
		{"[^\\*/]+", api.TkComment, "same"},
		{"[\\*/]", api.TkComment, "same"},
	},
}

// outside is numbers that are of no mode, and of no rule.
var outside = []int{-1, -2, -10, -16384, math.MinInt32, math.MinInt, math.MinInt + 1, 10, 11, 16384, math.MaxInt32, math.MaxInt - 1, math.MaxInt}

// depths is how deep a state may be said to be, with those that are too deep, or not deep at all.
var depths = []int{0, 1, 2, 3, 4, 63, 64, 100, 16382, 16383, 16384, 16385, 20000, -1, -2, -3, -16384, math.MaxInt32, math.MinInt32, math.MaxInt, math.MaxInt - 1, math.MinInt, math.MinInt + 1}

// next is the state behind a rule of said.
func next(s api.State, r rule) api.State {
	const deepest = 16384
	switch {
	case r.behind == "string":
		return api.State{Mode: api.MoString}
	case r.behind == "code", r.behind == "less" && s.Depth < 2, r.behind == "same" && s.Mode == api.MoCode:
		return api.State{Mode: api.MoCode}
	case r.behind == "same" && s.Mode == api.MoString:
		return api.State{Mode: api.MoString}
	case r.behind == "less":
		return api.State{Mode: api.MoComment, Depth: s.Depth - 1}
	case r.behind == "same":
		return s
	case s.Depth < 0:
		return api.State{Mode: api.MoComment, Depth: 1}
	case s.Depth >= deepest:
		return api.State{Mode: api.MoComment, Depth: deepest}
	}
	return api.State{Mode: api.MoComment, Depth: s.Depth + 1}
}

// P13.1, P13.2: the document's examples.
func TestExamples(t *testing.T) {
	if x, y, z := rules.Kind(api.MoCode, 3), rules.Kind(api.MoString, 1), rules.Kind(5, 0); x != api.TkNumber || y != api.TkEscape || z != api.TkError {
		t.Errorf("Kind: %d, %d, %d", x, y, z)
	}
	holdAfter(t, api.State{Mode: api.MoCode}, 5, api.State{Mode: api.MoComment, Depth: 1})
	holdAfter(t, api.State{Mode: api.MoComment, Depth: 2}, 1, api.State{Mode: api.MoComment, Depth: 1})
	holdAfter(t, api.State{Mode: api.MoComment, Depth: 1}, 1, api.State{Mode: api.MoCode})
	if !rules.Word("let") || rules.Word("Let") {
		t.Error("Word of let, or of Let")
	}
}

// holdAfter holds one After.
func holdAfter(t *testing.T, s api.State, rule int, want api.State) {
	t.Helper()
	if got := rules.After(s, rule); got != want {
		t.Errorf("After of %v, %d: %v, and not %v", s, rule, got, want)
	}
}

// P13.1: the rules of each mode, in order, and none of what is no mode.
func TestOf(t *testing.T) {
	for mode, l := range said {
		got := rules.Of(mode)
		if len(got) != len(l) {
			t.Errorf("Of %d: %d rules", mode, len(got))
			continue
		}
		for i, r := range l {
			if got[i] != r.text {
				t.Errorf("Of %d: the rule %d is %q, and not %q", mode, i, got[i], r.text)
			}
		}
	}
	for _, mode := range append([]int{3, 4, 5, 9}, outside...) {
		if l := rules.Of(mode); len(l) != 0 {
			t.Errorf("Of %d: %q", mode, l)
		}
	}
}

// P13.1, R2, R4: the list is the caller's own.
func TestOwn(t *testing.T) {
	for mode := range said {
		first, second := rules.Of(mode), rules.Of(mode)
		want := slices.Clone(first)
		for i := range first {
			first[i] = "x"
		}
		first = append(first[:1], "y", "z")
		if first[0] != "x" || !slices.Equal(second, want) || !slices.Equal(rules.Of(mode), want) {
			t.Errorf("Of %d isn't the caller's own", mode)
		}
	}
}

// P13.1: the kind of each rule, and of those that there are not.
func TestKind(t *testing.T) {
	for mode, l := range said {
		for i, r := range l {
			if got := rules.Kind(mode, i); got != r.kind {
				t.Errorf("Kind of %d, %d: %d, and not %d", mode, i, got, r.kind)
			}
		}
		for _, i := range append([]int{len(l), len(l) + 1}, outside...) {
			if got := rules.Kind(mode, i); got != api.TkError {
				t.Errorf("Kind of %d, %d: %d", mode, i, got)
			}
		}
	}
	for _, mode := range append([]int{3, 4, 5, 9}, outside...) {
		for _, i := range append([]int{0, 1, 2, 3, 4, 9}, outside...) {
			if got := rules.Kind(mode, i); got != api.TkError {
				t.Errorf("Kind of %d, %d: %d", mode, i, got)
			}
		}
	}
}

// P13.2: the state behind each rule, from each depth.
func TestAfter(t *testing.T) {
	for mode, l := range said {
		for i, r := range l {
			for _, depth := range depths {
				s := api.State{Mode: mode, Depth: depth}
				holdAfter(t, s, i, next(s, r))
			}
		}
	}
}

// P13.2: comments at the edges of what is deep, said by hand.
func TestDepths(t *testing.T) {
	comment := func(depth int) api.State { return api.State{Mode: api.MoComment, Depth: depth} }
	for _, x := range []struct{ depth, deeper, less int }{
		{2, 3, 1}, {3, 4, 2}, {16382, 16383, 16381}, {16383, 16384, 16382}, {16384, 16384, 16383}, {16385, 16384, 16384}, {16386, 16384, 16385},
		{math.MaxInt - 1, 16384, math.MaxInt - 2}, {math.MaxInt, 16384, math.MaxInt - 1},
		{1, 2, 0}, {0, 1, 0}, {-1, 1, 0}, {-2, 1, 0}, {-16384, 1, 0}, {math.MinInt, 1, 0},
	} {
		holdAfter(t, comment(x.depth), 0, comment(x.deeper))
		if x.less == 0 {
			holdAfter(t, comment(x.depth), 1, api.State{Mode: api.MoCode})
		} else {
			holdAfter(t, comment(x.depth), 1, comment(x.less))
		}
		holdAfter(t, comment(x.depth), 2, comment(x.depth))
		holdAfter(t, comment(x.depth), 3, comment(x.depth))
	}
	// A string, and what ends one, has no depth; nor has code.
	holdAfter(t, api.State{Mode: api.MoCode, Depth: 7}, 6, api.State{Mode: api.MoString})
	holdAfter(t, api.State{Mode: api.MoString, Depth: 7}, 2, api.State{Mode: api.MoCode})
	holdAfter(t, api.State{Mode: api.MoString, Depth: -7}, 0, api.State{Mode: api.MoString})
	holdAfter(t, api.State{Mode: api.MoCode, Depth: -7}, 0, api.State{Mode: api.MoCode})
	holdAfter(t, api.State{Mode: api.MoCode, Depth: -7}, 5, comment(1))
}

// P13.2: where there is no such rule, the state stays, whatever it is.
func TestNoRule(t *testing.T) {
	for _, depth := range depths {
		for mode, l := range said {
			for _, i := range append([]int{len(l), len(l) + 1}, outside...) {
				s := api.State{Mode: mode, Depth: depth}
				holdAfter(t, s, i, s)
			}
		}
		for _, mode := range append([]int{3, 4, 5, 9}, outside...) {
			for _, i := range append([]int{0, 1, 2, 3, 5, 9}, outside...) {
				s := api.State{Mode: mode, Depth: depth}
				holdAfter(t, s, i, s)
			}
		}
	}
}

// P13.1: each word, and names and texts that are none.
func TestWord(t *testing.T) {
	words := strings.Fields("if else let in fun true false and or not")
	for _, s := range words {
		if !rules.Word(s) {
			t.Errorf("%q is no word", s)
		}
		for i := range s {
			other := []string{s[:i], s[i+1:], s[:i] + s[i+1:], s[:i] + "_" + s[i:], s[:i] + strings.ToUpper(s[i:i+1]) + s[i+1:], s[:i] + "\x00" + s[i+1:]}
			for _, o := range append(other, s+" ", " "+s, s+s, s+"\n", s+"1", s+"\x00", strings.ToUpper(s)) {
				if rules.Word(o) != slices.Contains(words, o) {
					t.Errorf("Word of %q", o)
				}
			}
		}
	}
	for _, s := range []string{"", " ", "x", "elseif", "elif", "then", "nil", "fn", "func", "é", "\xff", "iſ", "if else", strings.Repeat("if", 9999)} {
		if rules.Word(s) {
			t.Errorf("%q is a word", s)
		}
	}
}

// P13.1: all short names.
func TestShortNames(t *testing.T) {
	const letters = "abcdefghijklmnopqrstuvwxyzILTOF_0"
	var met []string
	for _, a := range letters {
		for _, b := range letters {
			for _, c := range letters {
				if s := string([]rune{a, b, c}); rules.Word(s) {
					met = append(met, s)
				}
			}
			if s := string([]rune{a, b}); rules.Word(s) {
				met = append(met, s)
			}
		}
		if s := string(a); rules.Word(s) {
			met = append(met, s)
		}
	}
	slices.Sort(met)
	if got := strings.Join(met, " "); got != "and fun if in let not or" {
		t.Errorf("Words of at most three letters: %s", got)
	}
}

// P13.3: each rule is one, also all of a mode's together, and takes just what it is there for, said by hand.
func TestTexts(t *testing.T) {
	for _, x := range []struct {
		mode, rule int
		whole, not string // texts that it takes as a whole, and that it doesn't, with a bar behind each
	}{
		{api.MoCode, 0, " |\t|\r| \t\r | \r|", "\n| \n|\v|\f|\u00a0|a|_|"},
		{api.MoCode, 1, "\n|", "\r|\r\n|\n\n| |n|"},
		{api.MoCode, 2, "a|z|A|Z|_|_0|a9|let|aZ_09|", "0|9a|a-b|a b|é|aé|$|@|[|`|{|a.b|"},
		{api.MoCode, 3, "0|9|00|12.5|1e5|1E5|1e+5|1e-5|1.25e10|", ".5|5.|1.e5|1e|1e+|-1|+1|1.2.3|1_0|0x1|e5|1e5.5|"},
		{api.MoCode, 4, "//|// a|///|//*|//\"\r|//\xff\x00|", "/|/ /|/*|//\n|a//|"},
		{api.MoCode, 5, "/*|", "/|*|*/|/**|/* |//|"},
		{api.MoCode, 6, "\"|", "'|\"\"|`|"},
		{api.MoCode, 7, "(|[|{|", ")|]|}|((|<|()|\\|"},
		{api.MoCode, 8, ")|]|}|", "(|[|{|))|>|\\|"},
		{api.MoCode, 9, "+|-|*|/|%|<|>|!|=|,|;|:|.|==|!=|<=|>=|&&|->|", "&|===|=<|=>|++|--|>>|<<|^|~|?|@|#|$|\\|'|..|-->|<-|"},
		{api.MoString, 0, "a|é| |\t|\r|\xff\x00|'a'|/*|", "\"|\\|\n|a\"|a\\|a\n|"},
		{api.MoString, 1, `\n|\r|\t|\"|\\|\0|`, `\|\a|\x|\'|\1|\nn|n|"|\N|`},
		{api.MoString, 2, "\"|", "\\\"|\"\"|'|"},
		{api.MoString, 3, "\n|", "\\n|\n\n|\r|"},
		{api.MoComment, 0, "/*|", "*/|/|*|/**|//|"},
		{api.MoComment, 1, "*/|", "/*|/|*|**/|*/*|"},
		{api.MoComment, 2, "a|\n|\"|\\|é|\xff\x00| a\n\tb|", "*|/|a*|/a|a/b|"},
		{api.MoComment, 3, "*|/|", "**|//|*/|/*|a|"},
	} {
		text := rules.Of(x.mode)[x.rule]
		for _, s := range strings.SplitAfter(x.whole, "|") {
			holdTakes(t, text, strings.TrimSuffix(s, "|"), s != "")
		}
		for _, s := range strings.SplitAfter(x.not, "|") {
			holdTakes(t, text, strings.TrimSuffix(s, "|"), false)
		}
	}
	holdTakes(t, rules.Of(api.MoCode)[9], "||", true)
	holdTakes(t, rules.Of(api.MoCode)[9], "|", false)
	holdTakes(t, rules.Of(api.MoString)[0], "|a|", true)
	holdTakes(t, rules.Of(api.MoComment)[2], "|a|", true)
	for mode := range said {
		for i, s := range rules.Of(mode) {
			n, e := regs.Parse(s)
			if e != api.OK {
				t.Errorf("The rule %d of %d is none: %v", i, mode, e)
			}
			if m, _ := regs.Parse(said[mode][i].text); !regs.Same(n, m) {
				t.Errorf("The rule %d of %d is another one", i, mode)
			}
		}
		if _, e := nfas.Make(rules.Of(mode)); e != api.OK {
			t.Errorf("The rules of %d: %v", mode, e)
		}
	}
}

// holdTakes holds whether a rule takes a text as a whole.
func holdTakes(t *testing.T, rule, s string, want bool) {
	t.Helper()
	n, e := nfas.Make([]string{rule})
	if e != api.OK {
		t.Fatalf("%q: %v", rule, e)
	}
	long, number := n.Match(s, 0)
	if got := number == 0 && long == len(s); got != want {
		t.Errorf("%q takes %q: %v", rule, s, got)
	}
}

// P13.3: where rules lead from MoCode, 0 deep: all states, rule by rule.
func TestReach(t *testing.T) {
	begin := api.State{Mode: api.MoCode}
	met := map[api.State]bool{begin: true}
	for l := []api.State{begin}; len(l) > 0; l = l[1:] {
		for i := range said[l[0].Mode] {
			s := rules.After(l[0], i)
			if s.Mode == api.MoComment && s.Depth < 1 || s.Mode != api.MoComment && s.Depth != 0 {
				t.Fatalf("After of %v, %d: %v", l[0], i, s)
			}
			if !met[s] {
				met[s] = true
				l = append(l, s)
			}
		}
	}
	if len(met) != 2+16384 {
		t.Errorf("%d states", len(met))
	}
	for depth := range 16384 {
		if !met[api.State{Mode: api.MoComment, Depth: depth + 1}] {
			t.Fatalf("No comment is %d deep", depth+1)
		}
	}
	if !met[api.State{Mode: api.MoString}] {
		t.Error("No string")
	}
}

// P13.2, P13.3, R2: states and rules by chance, each asked twice, with others between.
func TestSome(t *testing.T) {
	source := rand.New(rand.NewSource(13))
	for range 20000 {
		s := api.State{Mode: source.Intn(7) - 2, Depth: source.Intn(20000) - 1000}
		i := source.Intn(14) - 2
		want := s
		if l := said[s.Mode]; i >= 0 && i < len(l) {
			want = next(s, l[i])
		}
		holdAfter(t, s, i, want)
		rules.After(want, i)
		rules.Kind(i, s.Mode)
		holdAfter(t, s, i, want)
	}
	// A way of rules, as a lexer goes it.
	at := api.State{Mode: api.MoCode}
	for range 50000 {
		l := said[at.Mode]
		i := source.Intn(len(l))
		want := next(at, l[i])
		holdAfter(t, at, i, want)
		at = want
	}
}
