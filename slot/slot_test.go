package slot_test

import (
	"math"
	"math/rand"
	"slices"
	"testing"

	"scrim/slot"
)

// P26.1: the numbers of what a plan says.
func TestConstants(t *testing.T) {
	if of := []int{slot.Stays, slot.Leaves, slot.Holds, slot.Drops, slot.Returns}; !slices.Equal(of, []int{0, 1, 2, 3, 4}) {
		t.Errorf("what each does is %v", of)
	}
	if of := []int{slot.Nothing, slot.Enters, slot.Waits}; !slices.Equal(of, []int{0, 1, 2}) {
		t.Errorf("what the current one does is %v", of)
	}
}

func plan(take, start int, release []int, each ...int) slot.Plan {
	return slot.Plan{Each: each, Take: take, Start: start, Release: release}
}

// P26.1: the chapter's example, and each rule with its exceptions.
func TestOf(t *testing.T) {
	for _, c := range []struct {
		old, key string
		mode     int
		want     slot.Plan
	}{
		// The example, and the other mode.
		{"a0", "b", outIn, plan(-1, waits, nil, leaves)},
		{"a0", "b", inOut, plan(-1, enters, nil, holds)},
		{"a0", "b", together, plan(-1, enters, nil, leaves)},
		// Nobody is there, or nobody is required.
		{"", "a", together, plan(-1, enters, nil)},
		{"", "a", outIn, plan(-1, enters, nil)},
		{"", "a", inOut, plan(-1, enters, nil)},
		{"", "", outIn, plan(-2, nothing, nil)},
		{"a0", "", inOut, plan(-2, nothing, nil, leaves)},
		{"a0", "", outIn, plan(-2, nothing, nil, leaves)},
		{"a1", "", inOut, plan(-2, nothing, nil, drops)},
		{"a4 b3", "", inOut, plan(-2, nothing, []int{0}, stays, leaves)},
		{"a4 b6 c4", "", together, plan(-2, nothing, []int{0, 2}, stays, stays, stays)},
		// The current kid has the key.
		{"a0", "a", inOut, plan(0, nothing, nil, stays)},
		{"a1", "a", outIn, plan(0, nothing, nil, stays)},
		{"a6 b1", "b", outIn, plan(1, nothing, nil, stays, stays)},
		{"a4 b0", "b", inOut, plan(1, nothing, []int{0}, stays, stays)},
		{"a4 b1", "b", outIn, plan(1, nothing, []int{0}, stays, stays)},
		{"a4 b2", "b", together, plan(1, nothing, nil, stays, stays)},
		{"a4 b3", "b", outIn, plan(1, nothing, nil, stays, stays)},
		// The same key as a ghost: only the first current kid counts.
		{"a6 a0", "a", together, plan(1, nothing, nil, stays, stays)},
		{"b0 a0", "a", together, plan(-1, enters, nil, leaves, stays)},
		// One that waits drops in every mode.
		{"a1", "b", together, plan(-1, enters, nil, drops)},
		{"a1", "b", outIn, plan(-1, enters, nil, drops)},
		{"a1", "b", inOut, plan(-1, enters, nil, drops)},
		{"a6 b1", "c", outIn, plan(-1, waits, nil, stays, drops)},
		// One that enters leaves, or is held.
		{"a2", "b", outIn, plan(-1, waits, nil, leaves)},
		{"a3", "b", inOut, plan(-1, enters, nil, holds)},
		// A ghost returns: the first one with the key.
		{"a5 a6 a4", "a", together, plan(0, enters, nil, returns, stays, stays)},
		{"b5 a6 a4", "a", together, plan(1, enters, nil, stays, returns, stays)},
		{"a4 a6", "a", outIn, plan(0, nothing, nil, returns, stays)},
		{"a6 b0", "a", together, plan(0, enters, nil, returns, leaves)},
		{"a6 b0", "a", outIn, plan(0, waits, nil, returns, leaves)},
		{"a6 b0", "a", inOut, plan(0, enters, nil, returns, holds)},
		{"a6", "a", outIn, plan(0, enters, nil, returns)},
		{"a6 b1", "a", outIn, plan(0, enters, nil, returns, drops)},
		{"a6 b5", "a", outIn, plan(0, waits, nil, returns, stays)},
		{"b5 a6", "a", inOut, plan(1, enters, nil, stays, returns)},
		// One that was held only stays, so those that are held leave.
		{"a4 b3", "a", inOut, plan(0, nothing, []int{1}, returns, holds)},
		{"a4 b3", "a", outIn, plan(0, nothing, nil, returns, leaves)},
		{"a4 b4 c2", "b", inOut, plan(1, nothing, []int{0, 2}, stays, returns, holds)},
		{"a4 b6 c4", "a", outIn, plan(0, nothing, []int{2}, returns, stays, stays)},
		// Those that are held wait for whoever enters, not for whoever waits.
		{"a4 b0", "c", inOut, plan(-1, enters, nil, stays, holds)},
		{"a4 b0", "c", together, plan(-1, enters, nil, stays, leaves)},
		{"a4 b3", "c", outIn, plan(-1, waits, []int{0}, stays, leaves)},
		{"a4 b6", "b", outIn, plan(1, waits, []int{0}, stays, returns)},
		{"a4", "b", outIn, plan(-1, waits, []int{0}, stays)},
		{"a4", "b", together, plan(-1, enters, nil, stays)},
		// The empty key belongs to no kid.
		{"-0", "", inOut, plan(-2, nothing, nil, leaves)},
		{"-6", "", together, plan(-2, nothing, nil, stays)},
		{"-0", "a", inOut, plan(-1, enters, nil, holds)},
	} {
		old := kids(c.old)
		if got := slot.Of(old, c.key, c.mode); !same(got, c.want) {
			t.Errorf("of %s, for %q in mode %d, it is %+v, wanted %+v", c.old, c.key, c.mode, got, c.want)
		}
		agree(t, old, c.key, c.mode)
	}
}

// P26.1: what goes on by itself.
func TestNext(t *testing.T) {
	for _, c := range []struct {
		old    string
		held   []int
		enters bool
	}{
		{"", nil, false}, {"a0", nil, false}, {"a1", nil, true}, {"a2", nil, false}, {"a3", nil, false},
		{"a4", []int{0}, false}, {"a5", nil, false}, {"a6", nil, false},
		{"a4 b0", []int{0}, false}, {"a4 b1", []int{0}, false}, {"a4 b2", nil, false}, {"a4 b3", nil, false},
		{"a4 b6 c4", []int{0, 2}, false}, {"b0 a4 c4", []int{1, 2}, false}, {"a6 b1", nil, false}, {"b1 a5", nil, false},
		{"a1 b0", nil, true}, {"a0 b1", nil, false}, {"a0 b2 c4", []int{2}, false}, {"a2 b0 c4", nil, false}, {"-1", nil, true},
	} {
		if held, enters := slot.Next(kids(c.old)); !slices.Equal(held, c.held) || enters != c.enters {
			t.Errorf("Next of %s is %v %v, wanted %v %v", c.old, held, enters, c.held, c.enters)
		}
	}
}

// P26.1 and P1: keys, kinds and modes of all sorts. A kind that does not exist is
// none of a ghost, and a mode that does not exist counts as Together.
func TestAnything(t *testing.T) {
	numbers := []int{math.MinInt, -1 << 31, -2, -1, 7, 8, 1 << 32, math.MaxInt}
	for _, kind := range numbers {
		old := []slot.Kid{{Key: "b", Kind: leaveTo}, {Key: "a", Kind: kind}}
		if got := slot.Of(old, "b", outIn); !same(got, plan(0, waits, nil, returns, leaves)) {
			t.Errorf("with the kind %d it is %+v", kind, got)
		}
		if got := slot.Of(old, "a", inOut); !same(got, plan(1, nothing, nil, stays, stays)) {
			t.Errorf("with the kind %d it is %+v", kind, got)
		}
		if held, enters := slot.Next(old[1:]); len(held) > 0 || enters {
			t.Errorf("Next with the kind %d is %v %v", kind, held, enters)
		}
	}
	for _, mode := range append(numbers, 3) {
		every(2, kids("a0 a1 a3 a4 a6 b0 b4 b5"), func(old []slot.Kid) {
			for _, key := range []string{"", "a", "b", "c"} {
				if got, want := slot.Of(old, key, mode), slot.Of(old, key, together); !same(got, want) {
					t.Fatalf("of %v, for %q in mode %d, it is %+v, wanted %+v", old, key, mode, got, want)
				}
			}
		})
	}
	names := []string{"a", "A", "a ", " ", "\x00", "\xff", "é", "e\u0301", "t-a"}
	for i, name := range names {
		for j, other := range names {
			got := slot.Of([]slot.Kid{{Key: name}}, other, together)
			if (got.Take == 0) != (i == j) {
				t.Errorf("of %q, for %q, it is %+v", name, other, got)
			}
		}
	}
}

// P26.1: up to three kids of each kind, or of one that does not exist.
func TestAllShortLists(t *testing.T) {
	every(3, kids("a0 a1 a2 a3 a4 a5 a6 a7 b0 b1 b2 b3 b4 b5 b6 -0 -1 -4 -6"), func(old []slot.Kid) {
		for _, key := range []string{"", "a", "b", "c"} {
			for mode := -1; mode < 4; mode++ {
				agree(t, old, key, mode)
			}
		}
	})
}

// P26.1: longer lists.
func TestAgainstModel(t *testing.T) {
	r := rand.New(rand.NewSource(261))
	for range 50000 {
		agree(t, some(r, 12), choose(r, "a", "b", "c", "d", ""), r.Intn(5)-1)
	}
}

// P26.2: OUT-IN and IN-OUT, for any kids.
func TestOrder(t *testing.T) {
	r := rand.New(rand.NewSource(262))
	for range 50000 {
		old, key := some(r, 6), choose(r, "a", "b", "c", "d")
		p := slot.Of(old, key, outIn)
		for i, k := range old {
			if p.Start == enters && i != p.Take && (ghost(k) || p.Each[i] == leaves) {
				t.Fatalf("of %v, for %q, %+v enters beside %d", old, key, p, i)
			}
		}
		p = slot.Of(old, key, inOut)
		if slices.Contains(p.Each, leaves) || p.Take < 0 && len(p.Release) > 0 {
			t.Fatalf("of %v, for %q, one leaves: %+v", old, key, p)
		}
		for _, i := range p.Release {
			if old[i].Kind != hold && old[p.Take].Kind != hold {
				t.Fatalf("of %v, for %q, %+v releases %d", old, key, p, i)
			}
		}
	}
}

// after returns the kind that a kid has after a plan.
func after(p slot.Plan, old []slot.Kid, i int) int {
	switch {
	case slices.Contains(p.Release, i), p.Each[i] == leaves:
		return leaveFrom
	case p.Each[i] == holds:
		return hold
	case p.Each[i] == returns && old[i].Kind == hold:
		return still
	case p.Each[i] == returns && p.Start == enters:
		return enterFrom
	case p.Each[i] == returns:
		return wait
	}
	return old[i].Kind
}

// P26.3: whoever waits waits for ghosts that leave, and whoever is held waits for one
// that enters, for any kids.
func TestNobodyForever(t *testing.T) {
	r := rand.New(rand.NewSource(263))
	for range 50000 {
		old, key, mode := some(r, 6), choose(r, "a", "b", "c", "d", ""), r.Intn(4)
		p := slot.Of(old, key, mode)
		comes := p.Start
		if p.Take >= 0 && entering(slot.Kid{Kind: after(p, old, p.Take)}) {
			comes = enters
		}
		ghosts := 0
		for i := range old {
			kind := after(p, old, i)
			if kind == hold && comes != enters {
				t.Fatalf("of %v, for %q in mode %d, %+v holds %d for nobody", old, key, mode, p, i)
			}
			if ghost(slot.Kid{Kind: kind}) {
				ghosts++
			}
		}
		if p.Start == waits && ghosts == 0 {
			t.Fatalf("of %v, for %q in mode %d, %+v waits for nobody", old, key, mode, p)
		}
	}
}

// roomy returns a copy of a list with some zero kids after it.
func roomy(l []slot.Kid) []slot.Kid { return append(slices.Clone(l), make([]slot.Kid, 4)...) }

// P1 and rule 5: nothing that is passed is changed, nor its spare capacity, and no
// memory is shared with it or with another result.
func TestMemory(t *testing.T) {
	r := rand.New(rand.NewSource(264))
	for range 5000 {
		old, key, mode := some(r, 6), choose(r, "a", "b", "c", ""), r.Intn(3)
		these := roomy(old)
		p, again := slot.Of(these[:len(old)], key, mode), slot.Of(these[:len(old)], key, mode)
		held, _ := slot.Next(these[:len(old)])
		other, _ := slot.Next(these[:len(old)])
		if !slices.Equal(these, roomy(old)) {
			t.Fatalf("%v has become %v", old, these)
		}
		clear(these)
		clear(again.Each)
		for _, l := range [][]int{again.Release, other} {
			for i := range l {
				l[i] = 77
			}
		}
		wanted, _ := next(old)
		if want := model(old, key, mode); !same(p, want) || !slices.Equal(held, wanted) {
			t.Fatalf("a change elsewhere has made %+v and %v", p, held)
		}
		for i := range p.Each {
			p.Each[i] = 77
		}
		if want := model(old, key, mode); !slices.Equal(p.Release, want.Release) {
			t.Fatalf("a change of Each has made %v of %v", p.Release, want.Release)
		}
	}
}

// P1: long lists end soon.
func TestLong(t *testing.T) {
	const long = 1 << 18
	for kind := -1; kind < 8; kind++ {
		old := slices.Repeat([]slot.Kid{{Key: "a", Kind: kind}}, long)
		for mode := range 3 {
			for _, key := range []string{"a", "b", ""} {
				if p := slot.Of(old, key, mode); len(p.Each) != long || p.Take > 0 {
					t.Errorf("of many of the kind %d, %d do something, and %d is taken", kind, len(p.Each), p.Take)
				}
			}
		}
		held, enters := slot.Next(old)
		if (len(held) == long) != (kind == hold) || enters != (kind == wait) {
			t.Errorf("Next of many of the kind %d is %d %v", kind, len(held), enters)
		}
	}
}
