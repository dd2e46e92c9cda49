package weave_test

import (
	"slices"

	"scrim/lis"
	"scrim/weave"
)

// single returns l with each number at its first position only.
func single(l []int) []int {
	var row []int
	for _, n := range l {
		if !slices.Contains(row, n) {
			row = append(row, n)
		}
	}
	return row
}

// among and without return the numbers of l that are in other, or are not.
func among(l, other []int) []int {
	return slices.DeleteFunc(slices.Clone(l), func(n int) bool { return !slices.Contains(other, n) })
}

func without(l, other []int) []int {
	return slices.DeleteFunc(slices.Clone(l), func(n int) bool { return slices.Contains(other, n) })
}

// nearest returns the elements of live before n in was of which the last one is
// the nearest.
func nearest(was, live []int, n int) []int {
	was = single(was)
	return among(was[:slices.Index(was, n)], live)
}

// merged is Merge, spelt out independently of the program: for each element of
// live all ghosts are asked whether it is the nearest one before them.
func merged(was, live []int) []int {
	var row []int
	ghosts := without(single(was), live)
	for _, ghost := range ghosts {
		if len(nearest(was, live, ghost)) == 0 {
			row = append(row, ghost)
		}
	}
	for _, n := range single(live) {
		row = append(row, n)
		for _, ghost := range ghosts {
			if before := nearest(was, live, ghost); len(before) > 0 && before[len(before)-1] == n {
				row = append(row, ghost)
			}
		}
	}
	return row
}

// steps is Steps, spelt out: each step is performed on a list, in which the
// position before the successor is looked up.
func steps(from, to []int) []weave.Step {
	from, to = single(from), single(to)
	var l []weave.Step
	for _, n := range without(from, to) {
		l = append(l, weave.Step{Kind: weave.Drop, ID: n})
	}
	row, stay := among(from, to), stays(from, to)
	for i := len(to) - 1; i >= 0; i-- {
		n := to[i]
		if slices.Contains(stay, n) {
			continue
		}
		kind := weave.Insert
		if at := slices.Index(row, n); at >= 0 {
			kind, row = weave.Move, slices.Delete(row, at, at+1)
		}
		at := len(row)
		if i+1 < len(to) {
			at = slices.Index(row, to[i+1])
		}
		row = slices.Insert(row, at, n)
		l = append(l, weave.Step{Kind: kind, ID: n, At: at})
	}
	return l
}

// stays returns the kept numbers.
func stays(from, to []int) []int {
	common := among(to, from)
	var places, kept []int
	for _, n := range common {
		places = append(places, slices.Index(from, n))
	}
	for _, i := range lis.Of(places) {
		kept = append(kept, common[i])
	}
	return kept
}

// after is Apply, spelt out: a list is made anew from its parts for each step.
func after(l []int, steps []weave.Step) ([]int, bool) {
	row := single(l)
	for _, s := range steps {
		rest := without(row, []int{s.ID})
		there, fits := len(rest) < len(row), s.At >= 0 && s.At <= len(rest)
		switch {
		case s.Kind == weave.Drop && there:
			row = rest
		case s.Kind == weave.Move && there && fits, s.Kind == weave.Insert && !there && fits:
			row = slices.Concat(rest[:s.At], []int{s.ID}, rest[s.At:])
		default:
			return nil, false
		}
	}
	return row, true
}

// state is a list of numbers below 5, as the digits of one number after a 9, and
// which of them had a step already, as bits.
type state struct{ digits, had int }

func stateOf(row []int, had int) state {
	s := state{9, had}
	for _, n := range row {
		s.digits = s.digits*10 + n
	}
	return s
}

func (s state) row() []int {
	var row []int
	for d := s.digits; d > 9; d /= 10 {
		row = append(row, d%10)
	}
	slices.Reverse(row)
	return row
}

// next returns the states after one Drop, Insert or Move of a number below 5 that
// had no step: those with as many Moves, and those with one more.
func (s state) next() (level, more []state) {
	row := s.row()
	for n := range 5 {
		if s.had>>n&1 > 0 {
			continue
		}
		rest, had := without(row, []int{n}), s.had|1<<n
		there := len(rest) < len(row)
		if there {
			level = append(level, stateOf(rest, had))
		}
		for at := range len(rest) + 1 {
			x := stateOf(slices.Insert(slices.Clone(rest), at, n), had)
			if there {
				more = append(more, x)
			} else {
				level = append(level, x)
			}
		}
	}
	return level, more
}

// fewest returns, by the digits of each list that from can become, the number of
// Moves that this takes at least. It is a search through all ways to do it.
func fewest(from []int) map[int]int {
	seen, most := map[state]int{}, map[int]int{}
	level := []state{stateOf(from, 0)}
	for moves := 0; len(level) > 0; moves++ {
		var later []state
		for len(level) > 0 {
			s := level[len(level)-1]
			level = level[:len(level)-1]
			if _, there := seen[s]; there {
				continue
			}
			seen[s] = moves
			if _, there := most[s.digits]; !there {
				most[s.digits] = moves
			}
			free, dear := s.next()
			level, later = append(level, free...), append(later, dear...)
		}
		level = later
	}
	return most
}
