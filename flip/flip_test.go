package flip_test

import (
	"math"
	"math/rand"
	"slices"
	"testing"

	"scrim/flip"
	"scrim/rect"
)

func at(id, x, y int) rect.Entry {
	return rect.Entry{ID: id, Rect: rect.Rect{X: x, Y: y, W: id + 5, H: 2}}
}

// P23.1: the document's example.
func TestExample(t *testing.T) {
	plan := flip.Plan(rect.Snap{at(2, 5, 5)}, rect.Snap{at(2, 1, 5)}, []int{2})
	if !slices.Equal(plan, []flip.Shift{{ID: 2, DX: 4}}) {
		t.Fatalf("the plan is %v", plan)
	}
	if got := plan[0].Left(1, 4); got != (flip.Shift{ID: 2, DX: 3}) {
		t.Errorf("after a tick of four it is %v", got)
	}
}

// P23.1: Plan follows the order of kids, each at its first position, and leaves out
// those that are not in both Snaps and those that are where they were.
func TestPlan(t *testing.T) {
	before := rect.SnapOf(at(1, 0, 0), at(2, 0, 3), at(3, 9, 9), at(5, 1, 1), at(6, 4, 4), at(0, 1, 0))
	after := rect.SnapOf(at(1, 0, 1), at(2, 0, 3), at(4, 0, 0), at(5, 0, 2), at(6, 1, 4), at(0, 0, 0))
	for _, c := range []struct {
		kids []int
		want []flip.Shift
	}{
		{nil, nil},
		{[]int{}, nil},
		{[]int{2, 3, 4, 7, -1, math.MaxInt}, nil},
		{[]int{0, 1, 5, 6}, []flip.Shift{{0, 1, 0}, {1, 0, -1}, {5, 1, -1}, {6, 3, 0}}},
		{[]int{6, 4, 6, 2, 5, 6, 3, 1, 5}, []flip.Shift{{6, 3, 0}, {5, 1, -1}, {1, 0, -1}}},
	} {
		if got := flip.Plan(before, after, c.kids); !slices.Equal(got, c.want) {
			t.Errorf("the plan for %v is %v, wanted %v", c.kids, got, c.want)
		}
		if got := flip.Plan(before, before, c.kids); len(got) > 0 {
			t.Errorf("where nothing moves the plan for %v is %v", c.kids, got)
		}
		if len(flip.Plan(nil, after, c.kids)) > 0 || len(flip.Plan(before, nil, c.kids)) > 0 {
			t.Errorf("without a Snap there is a plan for %v", c.kids)
		}
	}
	wider := rect.Snap{{ID: 1, Rect: rect.Rect{W: 99, H: 99}}}
	if got := flip.Plan(before, wider, []int{1}); len(got) > 0 {
		t.Errorf("another size counts as a move: %v", got)
	}
}

// P23.1: Apply moves what is there, Shift by Shift.
func TestApply(t *testing.T) {
	s := rect.SnapOf(at(1, 0, 0), at(3, 5, 5))
	for _, c := range []struct {
		l    []flip.Shift
		want rect.Snap
	}{
		{nil, s},
		{[]flip.Shift{{2, 9, 9}, {-1, 9, 9}}, s},
		{[]flip.Shift{{3, -7, 2}}, rect.Snap{at(1, 0, 0), at(3, -2, 7)}},
		{[]flip.Shift{{1, 1, 0}, {3, 0, 0}, {1, 4, -2}, {2, 7, 7}}, rect.Snap{at(1, 5, -2), at(3, 5, 5)}},
		{[]flip.Shift{{1, most, 0}, {1, 5, 0}, {1, -5, 0}}, rect.Snap{at(1, most-5, 0), at(3, 5, 5)}},
		{[]flip.Shift{{1, -5, 0}, {1, most, 0}, {1, 5, 0}}, rect.Snap{at(1, most, 0), at(3, 5, 5)}},
	} {
		if got := flip.Apply(s, c.l); !slices.Equal(got, c.want) {
			t.Errorf("%v after %v is %v, wanted %v", s, c.l, got, c.want)
		}
	}
	odd := rect.Snap{at(3, 5, 5), at(1, 9, 9), at(1, 0, 0)}
	if got := flip.Apply(odd, []flip.Shift{{1, 2, 3}}); !slices.Equal(got, rect.Snap{at(1, 2, 3), at(3, 5, 5)}) {
		t.Errorf("a Snap without the form becomes %v", got)
	}
}

// P23.1: what is left, tick by tick; Div rounds down, so that it is less for numbers
// below 0.
func TestLeft(t *testing.T) {
	s := flip.Shift{ID: 7, DX: 10, DY: -10}
	for _, c := range []struct{ t, dur, dx, dy int }{
		{-1, 4, 10, -10}, {0, 4, 10, -10}, {1, 4, 7, -8}, {2, 4, 5, -5}, {3, 4, 2, -3}, {4, 4, 0, 0}, {5, 4, 0, 0},
		{0, 1, 10, -10}, {1, 1, 0, 0}, {math.MinInt, 1, 10, -10},
		{0, 0, 0, 0}, {-1, 0, 0, 0}, {-9, -5, 0, 0}, {math.MinInt, math.MinInt, 0, 0}, {1, 0, 0, 0},
		{999, 1000, 0, -1}, {math.MaxInt, math.MaxInt, 0, 0}, {math.MaxInt - 1, math.MaxInt, 0, -1},
	} {
		if got := s.Left(c.t, c.dur); got != (flip.Shift{ID: 7, DX: c.dx, DY: c.dy}) {
			t.Errorf("after %d of %d ticks it is %v, wanted %d %d", c.t, c.dur, got, c.dx, c.dy)
		}
	}
}

// P23.1 and P1: Left, for any numbers.
func TestLeftAgainstModel(t *testing.T) {
	numbers := append(edges(), 3, 4, 5, 1000, -2000000, 1<<33)
	for _, d := range numbers {
		for _, ticks := range numbers {
			for _, dur := range numbers {
				s := flip.Shift{ID: d, DX: d, DY: -d / 3}
				want := flip.Shift{ID: d, DX: remains(s.DX, ticks, dur), DY: remains(s.DY, ticks, dur)}
				if got := s.Left(ticks, dur); got != want {
					t.Fatalf("%v after %d of %d ticks is %v, wanted %v", s, ticks, dur, got, want)
				}
			}
		}
	}
}

// P23.1 and P1: Plan and Apply, for Snaps of any form and any numbers.
func TestAgainstModel(t *testing.T) {
	r := rand.New(rand.NewSource(23))
	for i := range 20000 {
		before, after, kids, l := some(r, i%2 > 0), some(r, i%2 > 0), numbers(r), shifts(r)
		if got, want := flip.Plan(before, after, kids), planned(before, after, kids); !slices.Equal(got, want) {
			t.Fatalf("from %v to %v the plan for %v is %v, wanted %v", before, after, kids, got, want)
		}
		if got, want := flip.Apply(after, l), applied(after, l); !slices.Equal(got, want) {
			t.Fatalf("%v after %v is %v, wanted %v", after, l, got, want)
		}
	}
}

// P23.2: what is moved by its Shift is where it was, and as large as it is now.
// Nothing else moves.
func TestBack(t *testing.T) {
	r := rand.New(rand.NewSource(232))
	moved := 0
	for range 5000 {
		before, after, kids := some(r, false), some(r, false), numbers(r)
		plan := flip.Plan(before, after, kids)
		back := flip.Apply(after, plan)
		for _, e := range rect.SnapOf(after...) {
			want := e.Rect
			if old, was := last(before, e.ID); was && slices.Contains(kids, e.ID) {
				want.X, want.Y = old.X, old.Y
			}
			if got, _ := back.Get(e.ID); got != want {
				t.Fatalf("from %v to %v, with %v, %d is at %v, wanted %v", before, after, kids, e.ID, got, want)
			}
		}
		moved += len(plan)
	}
	if moved < 1000 {
		t.Errorf("only %d have moved", moved)
	}
}

// away is the distance of a number from 0.
func away(n int) int { return max(n, -n) }

// nearer fails unless what is left comes nearer to 0 all the way, and is rounded down
// from its share of the whole.
func nearer(t *testing.T, dx, dur int) {
	t.Helper()
	s := flip.Shift{ID: 1, DX: dx, DY: 5}
	before := dx
	for ticks := -1; ticks <= dur+1; ticks++ {
		now := s.Left(ticks, dur).DX
		grows := away(now) - away(before)
		if grows > 0 && !(now < 0 && grows == 1) {
			t.Fatalf("%d becomes %d at %d of %d ticks, after %d", dx, now, ticks, dur, before)
		}
		if share := dx*(dur-ticks) - now*dur; ticks >= 0 && ticks <= dur && (share < 0 || share >= dur) {
			t.Fatalf("%d becomes %d at %d of %d ticks", dx, now, ticks, dur)
		}
		before = now
	}
	if before != 0 {
		t.Fatalf("%d of %d remains in the end", before, dx)
	}
}

// P23.3: what is left comes nearer to 0, from each end of the range.
func TestNearer(t *testing.T) {
	for dur := 1; dur <= 40; dur++ {
		for dx := -90; dx <= 90; dx++ {
			nearer(t, dx, dur)
		}
	}
	r := rand.New(rand.NewSource(233))
	for _, dur := range []int{1, 2, 3, 7, 500, 999, 1000} {
		for _, dx := range []int{2000000, 1999999, 1000001, 1000, 999, 1} {
			nearer(t, dx, dur)
			nearer(t, -dx, dur)
		}
		for range 50 {
			nearer(t, r.Intn(4000001)-2000000, dur)
		}
	}
}

// P1: nothing that is passed is changed, nor its spare capacity, and no memory is
// shared with it or with another result.
func TestMemory(t *testing.T) {
	r := rand.New(rand.NewSource(234))
	for range 2000 {
		before, after, kids, l := some(r, false), some(r, false), numbers(r), shifts(r)
		all := [][]rect.Entry{slices.Clone(before), slices.Clone(after)}
		spare := append(make(rect.Snap, 0, len(after)+4), after...)
		plan, moved := flip.Plan(before, spare, kids), flip.Apply(spare, l)
		if !slices.Equal(before, all[0]) || !slices.Equal(spare, all[1]) || !slices.Equal(spare[:cap(spare)], append(all[1], make(rect.Snap, cap(spare)-len(spare))...)) {
			t.Fatalf("%v and %v have become %v and %v", all[0], all[1], before, spare[:cap(spare)])
		}
		want, wanted := slices.Clone(plan), slices.Clone(moved)
		clear(flip.Plan(before, spare, kids))
		clear(flip.Apply(spare, l))
		clear(before)
		clear(spare)
		clear(kids)
		clear(l)
		if !slices.Equal(plan, want) || !slices.Equal(moved, wanted) {
			t.Fatalf("a change elsewhere made %v and %v of %v and %v", plan, moved, want, wanted)
		}
	}
}

// P1: long lists end soon.
func TestLong(t *testing.T) {
	const long = 1 << 16
	var before, after rect.Snap
	var kids []int
	for i := range long {
		before, after = append(before, at(i, i, 0)), append(after, at(long-1-i, 0, 1))
		kids = append(kids, i, long-i)
	}
	plan := flip.Plan(before, after, kids)
	if len(plan) != long {
		t.Fatalf("the plan has %d Shifts", len(plan))
	}
	if back := flip.Apply(after, plan); len(back.Moved(before)) > 0 || len(back) != long {
		t.Error("not all is where it was")
	}
}
