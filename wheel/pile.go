package wheel

import (
	"cmp"
	"maps"
	"slices"
)

// pile is the heap of timers, and at which place of its row each token is, so that
// a timer can be cancelled without a search. Its exported methods are those that
// the library's heap calls.
type pile struct {
	row    []Timer
	places map[int]int
}

// inOrder compares two timers: which one is due first?
func inOrder(a, b Timer) int {
	return cmp.Or(cmp.Compare(a.Deadline, b.Deadline), cmp.Compare(a.Token, b.Token))
}

func (p *pile) Len() int { return len(p.row) }

func (p *pile) Less(i, j int) bool { return inOrder(p.row[i], p.row[j]) < 0 }

func (p *pile) Swap(i, j int) {
	p.row[i], p.row[j] = p.row[j], p.row[i]
	p.places[p.row[i].Token] = i
	p.places[p.row[j].Token] = j
}

// Push makes the map if need be, for a zero Wheel has none.
func (p *pile) Push(x any) {
	t, is := x.(Timer)
	if !is {
		return
	}
	if p.places == nil {
		p.places = map[int]int{}
	}
	p.places[t.Token] = len(p.row)
	p.row = append(p.row, t)
}

func (p *pile) Pop() any {
	last := len(p.row) - 1
	t := p.row[last]
	p.row = p.row[:last]
	delete(p.places, t.Token)
	return t
}

// copied returns a pile that shares no memory with p.
func (p *pile) copied() pile {
	return pile{row: slices.Clone(p.row), places: maps.Clone(p.places)}
}
