package flip_test

import (
	"math"
	"math/big"
	"math/rand"
	"slices"

	"scrim/flip"
	"scrim/rect"
)

const most, least = math.MaxInt32, math.MinInt32

// edges are numbers around the limits of 32 and of 64 bits.
func edges() []int {
	return []int{
		math.MinInt, math.MinInt + 1, -1 << 40, least - 1, least, least + 1, -7, -1,
		0, 1, 2, 9, most - 1, most, most + 1, 1 << 40, math.MaxInt - 1, math.MaxInt,
	}
}

// limited is x within 32 bits.
func limited(x *big.Int) int {
	switch {
	case x.Cmp(big.NewInt(least)) < 0:
		return least
	case x.Cmp(big.NewInt(most)) > 0:
		return most
	}
	return int(x.Int64())
}

// short is x within 32 bits, as a number that cannot overflow.
func short(x int) *big.Int { return big.NewInt(int64(limited(big.NewInt(int64(x))))) }

func sum(a, b int) int        { return limited(new(big.Int).Add(short(a), short(b))) }
func difference(a, b int) int { return limited(new(big.Int).Sub(short(a), short(b))) }

// remains is Left for one of the two numbers. Div of big rounds down, for dur is
// positive where it is reached.
func remains(d, t, dur int) int {
	if dur < 1 || t >= dur {
		return 0
	}
	if t < 1 {
		return d
	}
	whole := limited(new(big.Int).Mul(short(d), short(dur-t)))
	return limited(new(big.Int).Div(short(whole), short(dur)))
}

// last is the rectangle of an ID: of several entries the last one counts.
func last(s rect.Snap, id int) (rect.Rect, bool) {
	for i := len(s); i > 0; i-- {
		if s[i-1].ID == id {
			return s[i-1].Rect, true
		}
	}
	return rect.Rect{}, false
}

// planned is Plan, spelt out independently of the program.
func planned(before, after rect.Snap, kids []int) []flip.Shift {
	var plan []flip.Shift
	for i, id := range kids {
		old, was := last(before, id)
		now, is := last(after, id)
		dx, dy := difference(old.X, now.X), difference(old.Y, now.Y)
		if was && is && dx|dy != 0 && !slices.Contains(kids[:i], id) {
			plan = append(plan, flip.Shift{ID: id, DX: dx, DY: dy})
		}
	}
	return plan
}

// applied is Apply, spelt out independently of the program: ID by ID.
func applied(s rect.Snap, l []flip.Shift) rect.Snap {
	var ids []int
	for _, e := range s {
		ids = append(ids, e.ID)
	}
	slices.Sort(ids)
	var moved rect.Snap
	for _, id := range slices.Compact(ids) {
		r, _ := last(s, id)
		for _, shift := range l {
			if shift.ID == id {
				r.X, r.Y = sum(r.X, shift.DX), sum(r.Y, shift.DY)
			}
		}
		moved = append(moved, rect.Entry{ID: id, Rect: r})
	}
	return moved
}

func choose[T any](r *rand.Rand, l ...T) T { return l[r.Intn(len(l))] }

// some returns entries in any order, also several of one ID, which may reach beyond
// the limits if they are wild.
func some(r *rand.Rand, wild bool) rect.Snap {
	number := func() int {
		if wild && r.Intn(4) == 0 {
			return choose(r, edges()...)
		}
		return r.Intn(4)
	}
	var s rect.Snap
	for range r.Intn(9) {
		s = append(s, rect.Entry{ID: r.Intn(6) - 1, Rect: rect.Rect{X: number(), Y: number(), W: number(), H: number()}})
	}
	if r.Intn(2) == 0 {
		return rect.SnapOf(s...)
	}
	return s
}

// numbers returns IDs in any order, of which some may be the same, and some none of
// some's.
func numbers(r *rand.Rand) []int {
	var l []int
	for range r.Intn(10) {
		l = append(l, r.Intn(9)-2)
	}
	return l
}

// shifts returns Shifts of such IDs.
func shifts(r *rand.Rand) []flip.Shift {
	var l []flip.Shift
	for _, id := range numbers(r) {
		l = append(l, flip.Shift{ID: id, DX: choose(r, edges()...), DY: r.Intn(5) - 2})
	}
	return l
}
