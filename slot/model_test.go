package slot_test

import (
	"math/rand"
	"slices"
	"strings"
	"testing"

	"scrim/slot"
)

// The kinds, modes and what a plan says, by the numbers that the document gives them.
const (
	still, wait, enterFrom, enterTo, hold, leaveFrom, leaveTo = 0, 1, 2, 3, 4, 5, 6

	together, outIn, inOut = 0, 1, 2

	stays, leaves, holds, drops, returns = 0, 1, 2, 3, 4
	nothing, enters, waits               = 0, 1, 2
)

// kids in one text: each is a key, or - for the empty one, with the number of its
// kind.
func kids(text string) []slot.Kid {
	var l []slot.Kid
	for _, word := range strings.Fields(text) {
		l = append(l, slot.Kid{Key: strings.Trim(word[:1], "-"), Kind: int(word[1] - '0')})
	}
	return l
}

func ghost(k slot.Kid) bool    { return k.Kind >= hold && k.Kind <= leaveTo }
func entering(k slot.Kid) bool { return k.Kind == enterFrom || k.Kind == enterTo }

// at returns the index of the first kid that fits, or -1.
func at(old []slot.Kid, fits func(slot.Kid) bool) int { return slices.IndexFunc(old, fits) }

// currentOf returns the index of the current kid, or -1.
func currentOf(old []slot.Kid) int { return at(old, func(k slot.Kid) bool { return !ghost(k) }) }

// does is what an existing kid does, spelt out independently of the program.
func does(old []slot.Kid, i int, key string, mode int) int {
	now := currentOf(old)
	required := key != ""
	stay := required && now >= 0 && old[now].Key == key
	back := at(old, func(k slot.Kid) bool { return required && ghost(k) && k.Key == key })
	switch {
	case stay:
		return stays
	case i == now && old[i].Kind == wait:
		return drops
	case i == now && mode == inOut && required:
		return holds
	case i == now:
		return leaves
	case i == back:
		return returns
	}
	return stays
}

// begins is the Take and the Start of a plan, spelt out likewise.
func begins(old []slot.Kid, each []int, key string, mode int) (take, start int) {
	now := currentOf(old)
	take = slices.Index(each, returns)
	switch {
	case key == "":
		return -2, nothing
	case now >= 0 && old[now].Key == key:
		return now, nothing
	case take >= 0 && old[take].Kind == hold:
		return take, nothing
	case mode == outIn && slices.Contains(each, leaves):
		return take, waits
	}
	for i, k := range old {
		if mode == outIn && ghost(k) && i != take {
			return take, waits
		}
	}
	return take, enters
}

// model is Of, spelt out independently of the program.
func model(old []slot.Kid, key string, mode int) slot.Plan {
	var p slot.Plan
	for i := range old {
		p.Each = append(p.Each, does(old, i, key, mode))
	}
	p.Take, p.Start = begins(old, p.Each, key, mode)
	stay := p.Take >= 0 && p.Each[p.Take] == stays
	if p.Start == enters || stay && entering(old[p.Take]) {
		return p
	}
	for i, k := range old {
		if p.Each[i] == holds || p.Each[i] == stays && k.Kind == hold {
			p.Release = append(p.Release, i)
		}
	}
	return p
}

// next is Next, spelt out independently of the program.
func next(old []slot.Kid) ([]int, bool) {
	now, ghosts := currentOf(old), 0
	var held []int
	for i, k := range old {
		if ghost(k) {
			ghosts++
		}
		if k.Kind == hold {
			held = append(held, i)
		}
	}
	switch {
	case now < 0:
		return held, false
	case entering(old[now]):
		return nil, false
	}
	return held, old[now].Kind == wait && ghosts == 0
}

func same(a, b slot.Plan) bool {
	return slices.Equal(a.Each, b.Each) && a.Take == b.Take && a.Start == b.Start && slices.Equal(a.Release, b.Release)
}

// agree holds Of and Next against the model.
func agree(t *testing.T, old []slot.Kid, key string, mode int) {
	t.Helper()
	if got, want := slot.Of(old, key, mode), model(old, key, mode); !same(got, want) {
		t.Fatalf("of %v, for %q in mode %d, it is %+v, wanted %+v", old, key, mode, got, want)
	}
	held, begins := slot.Next(old)
	if wanted, may := next(old); !slices.Equal(held, wanted) || begins != may {
		t.Fatalf("Next of %v is %v %v, wanted %v %v", old, held, begins, wanted, may)
	}
}

// every passes all lists of up to n of some kids.
func every(n int, of []slot.Kid, pass func([]slot.Kid)) {
	var grow func(l []slot.Kid)
	grow = func(l []slot.Kid) {
		pass(l)
		if len(l) == n {
			return
		}
		for _, k := range of {
			grow(append(slices.Clone(l), k))
		}
	}
	grow(nil)
}

// some returns kids of any kind, also such as do not exist.
func some(r *rand.Rand, most int) []slot.Kid {
	l := make([]slot.Kid, r.Intn(most+1))
	for i := range l {
		l[i] = slot.Kid{Key: choose(r, "a", "b", "c", ""), Kind: r.Intn(9) - 1}
	}
	return l
}

func choose[T any](r *rand.Rand, l ...T) T { return l[r.Intn(len(l))] }
