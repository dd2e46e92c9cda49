package group_test

import (
	"math/rand"
	"slices"
	"strings"
	"testing"

	"scrim/group"
)

// kids of keys that stand in one text; one with a * is a ghost, and - is the empty
// key.
func kids(keys string) []group.Kid {
	var l []group.Kid
	for _, key := range strings.Fields(keys) {
		l = append(l, group.Kid{Key: strings.Trim(key, "*-"), Ghost: strings.HasSuffix(key, "*")})
	}
	return l
}

// keys that stand in one text; - is the empty one.
func keys(text string) []string {
	var l []string
	for _, key := range strings.Fields(text) {
		l = append(l, strings.Trim(key, "-"))
	}
	return l
}

// all is a plan with what is asked of it.
type all struct{ take, leave, new, back, kept, ghosts []int }

// of returns what the program plans.
func of(old []group.Kid, keys []string) all {
	p := group.Of(old, keys)
	return all{p.Take, p.Leave, p.New(), p.Back(old), p.Kept(old), p.Ghosts(old)}
}

func (a all) same(b all) bool {
	return slices.Equal(a.take, b.take) && slices.Equal(a.leave, b.leave) && slices.Equal(a.new, b.new) &&
		slices.Equal(a.back, b.back) && slices.Equal(a.kept, b.kept) && slices.Equal(a.ghosts, b.ghosts)
}

// taker returns the index of the existing kid that a key takes at its first
// occurrence, or -1.
func taker(old []group.Kid, key string) int {
	for _, ghost := range []bool{false, true} {
		if at := slices.Index(old, group.Kid{Key: key, Ghost: ghost}); at >= 0 {
			return at
		}
	}
	return -1
}

// model is what the document says, spelt out kid by kid and key by key.
func model(old []group.Kid, keys []string) all {
	var a all
	for i, key := range keys {
		at := -1
		if !slices.Contains(keys[:i], key) {
			at = taker(old, key)
		}
		a.take = append(a.take, at)
		switch {
		case at < 0:
			a.new = append(a.new, i)
		case old[at].Ghost:
			a.back = append(a.back, i)
		default:
			a.kept = append(a.kept, i)
		}
	}
	for i, kid := range old {
		taken := slices.Contains(keys, kid.Key) && taker(old, kid.Key) == i
		if !taken {
			a.ghosts = append(a.ghosts, i)
		}
		if !taken && !kid.Ghost {
			a.leave = append(a.leave, i)
		}
	}
	return a
}

// agree holds all functions against the model.
func agree(t *testing.T, old []group.Kid, keys []string) {
	t.Helper()
	if got, want := of(old, keys), model(old, keys); !got.same(want) {
		t.Fatalf("of %v, for %q, it is %+v, wanted %+v", old, keys, got, want)
	}
}

// every passes all lists of up to n of some elements.
func every[T any](n int, of []T, pass func([]T)) {
	var grow func(l []T)
	grow = func(l []T) {
		pass(l)
		if len(l) == n {
			return
		}
		for _, x := range of {
			grow(append(slices.Clone(l), x))
		}
	}
	grow(nil)
}

// some returns kids of which few or many have the same key.
func some(r *rand.Rand, most, span int) []group.Kid {
	l := make([]group.Kid, r.Intn(most+1))
	for i := range l {
		l[i] = group.Kid{Key: string(rune('a' + r.Intn(span))), Ghost: r.Intn(3) == 0}
	}
	return l
}

// wanted returns keys, also such as none of some's kids has.
func wanted(r *rand.Rand, most, span int) []string {
	l := make([]string, r.Intn(most+1))
	for i := range l {
		l[i] = string(rune('a' + r.Intn(span+2)))
	}
	return l
}
