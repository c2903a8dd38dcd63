package dfas_test

import (
	"slices"
	"strconv"
	"testing"

	"limner/api"
	"limner/dfas"
	"limner/nfas"
	"limner/regs"
)

// What the document says, written out once more, to hold the package against: of rules there are no states, but sets of places of a whole text (of less than 64 bytes; bit i: the place i); of tables there are no blocks, but what each state takes, found again and again until nothing changes.

// allBytes is every byte.
var allBytes = func() []byte {
	l := make([]byte, 256)
	for i := range l {
		l[i] = byte(i)
	}
	return l
}()

type places uint64

func (p places) has(at int) bool {
	return p>>at&1 == 1
}

// behind is the places that are behind a text of a node that begins at one of some places.
func behind(n regs.Node, s string, from places) places {
	to := from
	switch n.Kind {
	case regs.Bytes:
		to = 0
		for i := range len(s) {
			if from.has(i) && n.Set[s[i]/64]>>(s[i]%64)&1 == 1 {
				to |= 1 << (i + 1)
			}
		}
	case regs.Cat:
		for _, kid := range n.Kids {
			to = behind(kid, s, to)
		}
	case regs.Alt:
		to = 0
		for _, kid := range n.Kids {
			to |= behind(kid, s, from)
		}
	case regs.Plus:
		return times(n.Kids[0], s, behind(n.Kids[0], s, from))
	case regs.Star:
		return times(n.Kids[0], s, from)
	case regs.Maybe:
		to |= behind(n.Kids[0], s, from)
	}
	return to
}

// times is the places that are behind any number of texts of a node.
func times(n regs.Node, s string, from places) places {
	for {
		to := from | behind(n, s, from)
		if to == from {
			return to
		}
		from = to
	}
}

// hasText tells whether there is a text of a node.
func hasText(n regs.Node) bool {
	switch n.Kind {
	case regs.Bytes:
		return n.Set != [4]uint64{}
	case regs.Cat:
		return !slices.ContainsFunc(n.Kids, func(kid regs.Node) bool { return !hasText(kid) })
	case regs.Alt:
		return slices.ContainsFunc(n.Kids, hasText)
	case regs.Plus:
		return hasText(n.Kids[0])
	}
	return true
}

// begins tells whether some text of a node begins with what stands from one of some places on.
func begins(n regs.Node, s string, from places) bool {
	end := from.has(len(s))
	switch n.Kind {
	case regs.Bytes:
		return end && hasText(n) || behind(n, s, from).has(len(s))
	case regs.Cat:
		for i, kid := range n.Kids {
			rest := regs.Node{Kind: regs.Cat, Kids: n.Kids[i+1:]}
			if begins(kid, s, from) && hasText(rest) {
				return true
			}
			from = behind(kid, s, from)
		}
		return from.has(len(s))
	case regs.Alt:
		return slices.ContainsFunc(n.Kids, func(kid regs.Node) bool { return begins(kid, s, from) })
	case regs.Plus:
		return begins(n.Kids[0], s, times(n.Kids[0], s, from))
	case regs.Star:
		return end || begins(n.Kids[0], s, times(n.Kids[0], s, from))
	case regs.Maybe:
		return end || begins(n.Kids[0], s, from)
	}
	return end
}

// rules is rules in all forms that there are.
type rules struct {
	texts []string
	nodes []regs.Node
	nfa   *nfas.NFA
	dfa   *dfas.DFA // what Make tells
	least *dfas.DFA // what Min tells
}

// made is rules that are some, and have not too many states.
func made(t *testing.T, texts ...string) rules {
	t.Helper()
	r := rules{texts: texts}
	for _, s := range texts {
		n, e := regs.Parse(s)
		if e != api.OK {
			t.Fatalf("%q: %v", s, e)
		}
		r.nodes = append(r.nodes, n)
	}
	n, e := nfas.Make(texts)
	if e != api.OK {
		t.Fatalf("%q: %v", texts, e)
	}
	d, e := dfas.Make(n)
	if e != api.OK || d == nil {
		t.Fatalf("Make of %q: %v, %v", texts, d, e)
	}
	m := d.Min()
	if m == nil {
		t.Fatalf("Min of %q is none", texts)
	}
	r.nfa, r.dfa, r.least = n, d, m
	return r
}

// matchOf is what Match has to tell of the longest beginning, and of its rule.
func (r rules) matchOf(s string, at int) (long, rule int) {
	if at < 0 || at > len(s) {
		return 0, -1
	}
	long, rule = -1, -1
	for i, n := range r.nodes {
		to := behind(n, s[at:], 1)
		for l := len(s) - at; l > long; l-- {
			if to.has(l) {
				long, rule = l, i
			}
		}
	}
	return max(long, 0), rule
}

// stepsOf is how long the longest beginning is that some text of a rule begins with.
func (r rules) stepsOf(s string, at int) int {
	if at < 0 || at > len(s) {
		return 0
	}
	for l := len(s) - at; l > 0; l-- {
		if slices.ContainsFunc(r.nodes, func(n regs.Node) bool { return begins(n, s[at:at+l], 1) }) {
			return l
		}
	}
	return 0
}

// listsOf is how many lists that are not empty are behind each other, byte by byte.
func (r rules) listsOf(s string, at int) int {
	if at < 0 || at > len(s) {
		return 0
	}
	l := r.nfa.Start()
	for i := at; i < len(s); i++ {
		if l = r.nfa.Step(l, s[i]); len(l) == 0 {
			return i - at
		}
	}
	return len(s) - at
}

// holdText holds Match of a text, at each place of it and around it, against the document.
func (r rules) holdText(t *testing.T, s string) {
	t.Helper()
	for at := -1; at <= len(s)+1; at++ {
		l, i := r.matchOf(s, at)
		long, rule, steps := r.dfa.Match(s, at)
		if k := r.listsOf(s, at); long != l || rule != i || steps != k {
			t.Errorf("Match of %q, %d: %d, %d, %d, and not %d, %d, %d", s, at, long, rule, steps, l, i, k)
		}
		long, rule, steps = r.least.Match(s, at)
		if k := r.stepsOf(s, at); long != l || rule != i || steps != k {
			t.Errorf("Match of %q, %d, of Min: %d, %d, %d, and not %d, %d, %d", s, at, long, rule, steps, l, i, k)
		}
		if x, y := r.nfa.Match(s, at); x != l || y != i {
			t.Errorf("Match of %q, %d, of the NFA: %d, %d, and not %d, %d", s, at, x, y, l, i)
		}
	}
}

// listText is a list as a text.
func listText(l []int) string {
	s := ""
	for _, at := range l {
		s += strconv.Itoa(at) + ","
	}
	return s
}

// holdMake holds what Make told against P12.1 and P12.2: a state for each list, behind the same bytes.
func (r rules) holdMake(t *testing.T, bytes []byte) {
	t.Helper()
	start := r.nfa.Start()
	lists, numbers := map[int][]int{0: start}, map[string]int{listText(start): 0}
	for work := []int{0}; len(work) > 0; work = work[1:] {
		at := work[0]
		if got, want := r.dfa.Accepts(at), r.nfa.Accepts(lists[at]); got != want {
			t.Errorf("Accepts of %d: %d, and not %d", at, got, want)
		}
		for _, b := range bytes {
			to, l := r.dfa.Step(at, b), r.nfa.Step(lists[at], b)
			if (to == -1) != (len(l) == 0) || to < -1 || to >= r.dfa.States() {
				t.Fatalf("Step of %d by %q: %d, and the list is %v", at, b, to, l)
			}
			if to == -1 {
				continue
			}
			was, there := lists[to]
			number, known := numbers[listText(l)]
			if there != known || known && (number != to || !slices.Equal(was, l)) {
				t.Fatalf("Step of %d by %q: %d, which is another list's state", at, b, to)
			}
			if !known {
				lists[to], numbers[listText(l)] = l, to
				work = append(work, to)
			}
		}
	}
	if r.dfa.States() != len(lists) {
		t.Errorf("States of Make: %d, and not %d", r.dfa.States(), len(lists))
	}
}

// takers is for each state of a DFA whether it takes a text.
func takers(d *dfas.DFA, bytes []byte) []bool {
	l := make([]bool, d.States())
	for again := true; again; {
		again = false
		for at := range l {
			if l[at] {
				continue
			}
			l[at] = d.Accepts(at) >= 0 || slices.ContainsFunc(bytes, func(b byte) bool {
				to := d.Step(at, b)
				return to >= 0 && l[to]
			})
			again = again || l[at]
		}
	}
	return l
}

// kinds is for each state of a DFA a number, that is the same just for those that take the same texts for the same rules; -1 for those that take none.
func kinds(d *dfas.DFA, bytes []byte) []int {
	some := takers(d, bytes)
	l := make([]int, len(some))
	for at := range l {
		l[at] = d.Accepts(at)
	}
	for many := 0; ; {
		numbers, next := map[string]int{}, make([]int, len(l))
		for at := range l {
			next[at] = -1
			if !some[at] {
				continue
			}
			looks := []int{d.Accepts(at), l[at]}
			for _, b := range bytes {
				if to := d.Step(at, b); to >= 0 && some[to] {
					looks = append(looks, l[to])
				} else {
					looks = append(looks, -2)
				}
			}
			text := listText(looks)
			if _, ok := numbers[text]; !ok {
				numbers[text] = len(numbers)
			}
			next[at] = numbers[text]
		}
		l = next
		if len(numbers) == many {
			return l
		}
		many = len(numbers)
	}
}

// holdMin holds what Min told against P12.4.
func (r rules) holdMin(t *testing.T, bytes []byte) {
	t.Helper()
	kind := kinds(r.dfa, bytes)
	// The states as they are met, each by one of what Make told; and the numbers of their kinds.
	met, numbers := []int{0}, map[int]int{kind[0]: 0}
	for at := 0; at < len(met); at++ {
		if got, want := r.least.Accepts(at), r.dfa.Accepts(met[at]); got != want {
			t.Errorf("Accepts of %d of Min: %d, and not %d", at, got, want)
		}
		for _, b := range bytes {
			want := -1
			if to := r.dfa.Step(met[at], b); to >= 0 && kind[to] >= 0 {
				number, ok := numbers[kind[to]]
				if !ok {
					number = len(met)
					numbers[kind[to]] = number
					met = append(met, to)
				}
				want = number
			}
			if got := r.least.Step(at, b); got != want {
				t.Errorf("Step of %d by %q of Min: %d, and not %d", at, b, got, want)
			}
		}
	}
	if got := r.least.States(); got != len(met) {
		t.Errorf("States of Min: %d, and not %d", got, len(met))
	}
	holdLeast(t, r.least, bytes)
}

// holdLeast holds a DFA against what P12.4 says of it alone.
func holdLeast(t *testing.T, d *dfas.DFA, bytes []byte) {
	t.Helper()
	seen := map[int]int{}
	for at, kind := range kinds(d, bytes) {
		if kind < 0 && at > 0 {
			t.Errorf("the state %d of Min takes no text", at)
		}
		if other, ok := seen[kind]; ok {
			t.Errorf("the states %d and %d of Min take the same", other, at)
		}
		seen[kind] = at
	}
	holdSame(t, d.Min(), d)
}

// holdSame holds two DFAs against each other: all numbers must be the same.
func holdSame(t *testing.T, d, want *dfas.DFA) {
	t.Helper()
	if d.States() != want.States() {
		t.Fatalf("%d states, and not %d", d.States(), want.States())
	}
	for at := range d.States() {
		if x, y := d.Accepts(at), want.Accepts(at); x != y {
			t.Fatalf("Accepts of %d: %d, and not %d", at, x, y)
		}
		for _, b := range allBytes {
			if x, y := d.Step(at, b), want.Step(at, b); x != y {
				t.Fatalf("Step of %d by %q: %d, and not %d", at, b, x, y)
			}
		}
	}
}

// holdRules holds all that is told of rules, whose letters are among some bytes, against the document, for some texts.
func holdRules(t *testing.T, bytes []byte, texts []string, rules ...string) {
	t.Helper()
	r := made(t, rules...)
	r.holdMake(t, bytes)
	r.holdMin(t, bytes)
	for _, s := range texts {
		r.holdText(t, s)
	}
	if t.Failed() {
		t.Fatalf("(of the rules %q)", rules)
	}
}
