package dfas

import "slices"

// parting is states in blocks, that are parted until no two states of one block take other texts, or for other rules, than each other.
type parting struct {
	states []int // block behind block
	places []int // where each state stands in states
	blocks []block
	of     []int // the number of each state's block
}

// block is where it stands in the states, and how many of it, at its front, are marked.
type block struct {
	from, to, marked int
}

// ways is the states that lead to a state, by the bytes that lead there.
type ways [manyBytes][]int

// Min is the least one that does the same.
func (d *DFA) Min() *DFA {
	if d.States() == 0 {
		return nil
	}
	return d.merged(d.parted())
}

// merged is a state for each block, numbered as they are met. What leads into the block of sink leads nowhere.
func (d *DFA) merged(of []int, sink int) *DFA {
	numbers := slices.Repeat([]int{noState}, len(of))
	numbers[of[0]] = 0
	least := &DFA{}
	// Any state of a block stands for it: the one it was met by.
	met := []int{0}
	for at := 0; at < len(met); at++ {
		s := d.states[met[at]]
		for b, to := range s.next {
			if to == noState || of[to] == of[sink] {
				s.next[b] = noState
				continue
			}
			if numbers[of[to]] == noState {
				numbers[of[to]] = len(met)
				met = append(met, to)
			}
			s.next[b] = numbers[of[to]]
		}
		least.states = append(least.states, s)
	}
	return least
}

// parted is the block of each state, and of one more, sink, that stands for none: what takes no text is in its block.
func (d *DFA) parted() (of []int, sink int) {
	sink = len(d.states)
	rules, back := make([]int, sink+1), make([]ways, sink+1)
	rules[sink] = noRule
	for b := range manyBytes {
		back[sink][b] = []int{sink}
	}
	for at, s := range d.states {
		rules[at] = s.rule
		for b, to := range s.next {
			if to == noState {
				to = sink
			}
			back[to][b] = append(back[to][b], at)
		}
	}
	p := partingBy(rules)
	// Each block parts the others once. A new one is a part of an old one, and comes last; the other part need not come again: what it tells, the old one and the new one tell.
	for at := 0; at < len(p.blocks); at++ {
		p.partBy(at, back)
	}
	return p.of, sink
}

// partingBy is a block of the states of each rule.
func partingBy(rules []int) *parting {
	p := &parting{places: make([]int, len(rules)), of: make([]int, len(rules))}
	for at := range rules {
		p.states = append(p.states, at)
	}
	slices.SortStableFunc(p.states, func(a, b int) int { return rules[a] - rules[b] })
	for place, at := range p.states {
		if place == 0 || rules[at] != rules[p.states[place-1]] {
			p.blocks = append(p.blocks, block{from: place, to: place})
		}
		p.blocks[len(p.blocks)-1].to++
		p.places[at] = place
		p.of[at] = len(p.blocks) - 1
	}
	return p
}

// partBy parts all blocks by whether a byte leads into one of them, byte by byte.
func (p *parting) partBy(into int, back []ways) {
	// It may be parted itself meanwhile, and is held against all as it was.
	was := slices.Clone(p.states[p.blocks[into].from:p.blocks[into].to])
	for b := range manyBytes {
		var hit []int
		for _, to := range was {
			for _, at := range back[to][b] {
				if p.mark(at) {
					hit = append(hit, p.of[at])
				}
			}
		}
		for _, at := range hit {
			p.part(at)
		}
	}
}

// mark marks a state, that is not marked, and tells whether it is the first one of its block. A byte leads from a state to one alone, so that no state is marked twice.
func (p *parting) mark(at int) bool {
	b := &p.blocks[p.of[at]]
	place, front := p.places[at], b.from+b.marked
	other := p.states[front]
	p.states[place], p.states[front] = other, at
	p.places[other], p.places[at] = place, front
	b.marked++
	return b.marked == 1
}

// part parts a block by what is marked of it, and unmarks it. The lesser part is the new block, so that no state is in a new one often.
func (p *parting) part(number int) {
	b := &p.blocks[number]
	mid := b.from + b.marked
	b.marked = 0
	if mid == b.to {
		return
	}
	lesser := block{from: b.from, to: mid}
	if mid-b.from <= b.to-mid {
		b.from = mid
	} else {
		lesser.from, lesser.to = mid, b.to
		b.to = mid
	}
	for _, at := range p.states[lesser.from:lesser.to] {
		p.of[at] = len(p.blocks)
	}
	p.blocks = append(p.blocks, lesser)
}
