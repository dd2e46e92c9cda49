package group_test

import (
	"math"
	"math/rand"
	"slices"
	"strconv"
	"testing"

	"scrim/group"
)

// P25.1: the chapter's example, and the edges.
func TestExamples(t *testing.T) {
	for _, c := range []struct {
		old, keys string
		want      all
	}{
		{"a b* c", "c b d", all{take: []int{2, 1, -1}, leave: []int{0}, new: []int{2}, back: []int{1}, kept: []int{0}, ghosts: []int{0}}},
		{"", "", all{}},
		{"", "a a", all{take: []int{-1, -1}, new: []int{0, 1}}},
		{"a b* c", "", all{leave: []int{0, 2}, ghosts: []int{0, 1, 2}}},
		{"a", "a a a", all{take: []int{0, -1, -1}, new: []int{1, 2}, kept: []int{0}}},
		{"a*", "a a", all{take: []int{0, -1}, new: []int{1}, back: []int{0}}},
		{"a a", "a a", all{take: []int{0, -1}, leave: []int{1}, new: []int{1}, kept: []int{0}, ghosts: []int{1}}},
		{"a* a", "a", all{take: []int{1}, kept: []int{0}, ghosts: []int{0}}},
		{"a a*", "a", all{take: []int{0}, kept: []int{0}, ghosts: []int{1}}},
		{"a* a*", "a a", all{take: []int{0, -1}, new: []int{1}, back: []int{0}, ghosts: []int{1}}},
		{"b a* b* a a b", "b a", all{take: []int{0, 3}, leave: []int{4, 5}, kept: []int{0, 1}, ghosts: []int{1, 2, 4, 5}}},
		{"a b c", "c a b", all{take: []int{2, 0, 1}, kept: []int{0, 1, 2}}},
		{"- a -*", "- a -", all{take: []int{0, 1, -1}, new: []int{2}, kept: []int{0, 1}, ghosts: []int{2}}},
		{"-*", "a -", all{take: []int{-1, 0}, new: []int{0}, back: []int{1}}},
	} {
		if got := of(kids(c.old), keys(c.keys)); !got.same(c.want) {
			t.Errorf("of %s, for %s, it is %+v, wanted %+v", c.old, c.keys, got, c.want)
		}
		agree(t, kids(c.old), keys(c.keys))
	}
}

// P25.1: keys of any bytes; only equal ones are the same.
func TestAnyKeys(t *testing.T) {
	names := []string{"", "a", "A", "a ", "\x00", "\xff", "\xff\x00", "é", "e\u0301", "t-a", "-1"}
	var old []group.Kid
	for i, name := range names {
		old = append(old, group.Kid{Key: name, Ghost: i%2 > 0})
	}
	for i, name := range names {
		if got := group.Of(old, []string{name}).Take; !slices.Equal(got, []int{i}) {
			t.Errorf("%q takes %v, wanted %d", name, got, i)
		}
		if got := group.Of(slices.Delete(slices.Clone(old), i, i+1), []string{name}).Take; !slices.Equal(got, []int{-1}) {
			t.Errorf("%q takes %v of the others", name, got)
		}
	}
}

// P25.1: up to four kids, and up to three keys.
func TestAllShortLists(t *testing.T) {
	every(4, kids("a a* b b* - -*"), func(old []group.Kid) {
		every(3, keys("a b -"), func(keys []string) { agree(t, old, keys) })
	})
}

// P25.1: longer lists, which have much or little in common.
func TestAgainstModel(t *testing.T) {
	r := rand.New(rand.NewSource(251))
	for range 20000 {
		span := 1 + r.Intn(24)
		agree(t, some(r, 20, span), wanted(r, 20, span))
	}
}

// count returns how many of the lists have a number.
func count(n int, lists ...[]int) int {
	times := 0
	for _, l := range lists {
		for _, m := range l {
			if m == n {
				times++
			}
		}
	}
	return times
}

// of the keys at some indices, what they take.
func takes(p group.Plan, at []int) []int {
	var l []int
	for _, i := range at {
		l = append(l, p.Take[i])
	}
	return l
}

// P25.2: each kid stays, returns, leaves or remains a ghost; each key is new, or
// takes one that no other key takes.
func TestExactlyOne(t *testing.T) {
	r := rand.New(rand.NewSource(252))
	for range 20000 {
		span := 1 + r.Intn(9)
		old, keys := some(r, 9, span), wanted(r, 9, span)
		p := group.Of(old, keys)
		stay, back, ghosts := takes(p, p.Kept(old)), takes(p, p.Back(old)), p.Ghosts(old)
		for i, kid := range old {
			remains := 0
			if kid.Ghost {
				remains = count(i, ghosts)
			}
			if count(i, stay)+count(i, back)+count(i, p.Leave)+remains != 1 {
				t.Fatalf("of %v, for %q, %d stay, %d return, %d leave, and %d are ghosts", old, keys, stay, back, p.Leave, ghosts)
			}
			if kid.Ghost && count(i, stay, p.Leave) > 0 || !kid.Ghost && count(i, back) > 0 {
				t.Fatalf("of %v, for %q, %d stay, %d return, and %d leave", old, keys, stay, back, p.Leave)
			}
			if count(i, ghosts) != 1-count(i, stay, back) || count(i, p.Take) != count(i, stay, back) {
				t.Fatalf("of %v, for %q, %d are taken, and %d are ghosts", old, keys, p.Take, ghosts)
			}
		}
		for i, at := range p.Take {
			if at >= 0 && old[at].Key != keys[i] || at < -1 || count(i, p.New(), p.Back(old), p.Kept(old)) != 1 {
				t.Fatalf("of %v, %q take %d", old, keys, p.Take)
			}
		}
	}
}

// P25.3: a key that is still required keeps its kid, unless that is a ghost.
func TestKept(t *testing.T) {
	r := rand.New(rand.NewSource(253))
	for range 20000 {
		span := 1 + r.Intn(12)
		old, keys := some(r, 12, span), wanted(r, 12, span)
		p := group.Of(old, keys)
		for i, key := range keys {
			first := slices.Index(old, group.Kid{Key: key})
			if slices.Index(keys, key) < i || first < 0 {
				continue
			}
			if p.Take[i] != first || count(i, p.Kept(old)) != 1 || count(first, p.Ghosts(old)) > 0 {
				t.Fatalf("of %v, %q take %d", old, keys, p.Take)
			}
		}
	}
}

// P1: a zero Plan, one of other kids, and one that nobody has made.
func TestAnyPlan(t *testing.T) {
	old := kids("a b* c")
	var zero group.Plan
	if len(zero.New()) > 0 || len(zero.Back(old)) > 0 || len(zero.Kept(old)) > 0 || !slices.Equal(zero.Ghosts(old), []int{1}) {
		t.Error("a zero Plan has something")
	}
	wide := group.Of(kids("x a c b* y*"), keys("y d b a"))
	if !slices.Equal(wide.New(), []int{1}) || !slices.Equal(wide.Back(kids("x a")), nil) || !slices.Equal(wide.Kept(kids("x a")), []int{3}) || !slices.Equal(wide.Ghosts(kids("x a*")), []int{0}) {
		t.Errorf("of fewer kids, %+v is something else", wide)
	}
	wild := group.Plan{Take: []int{math.MinInt, 3, -1, 1, math.MaxInt, 1, 0}, Leave: []int{math.MaxInt, 2, -1, 2, 3, math.MinInt}}
	if !slices.Equal(wild.Back(old), []int{3, 5}) || !slices.Equal(wild.Kept(old), []int{6}) || !slices.Equal(wild.Ghosts(old), []int{2}) {
		t.Errorf("back are %v, kept %v, and ghosts %v", wild.Back(old), wild.Kept(old), wild.Ghosts(old))
	}
	if len(wild.Back(nil))+len(wild.Kept(nil))+len(wild.Ghosts(nil)) > 0 {
		t.Error("of no kids there is something")
	}
}

// roomy returns a copy of a list with some zero elements after it.
func roomy[T any](l []T) []T { return append(slices.Clone(l), make([]T, 4)...) }

// P1 and rule 5: nothing that is passed is changed, nor its spare capacity, and no
// memory is shared with it, with the plan, or with another result.
func TestMemory(t *testing.T) {
	r := rand.New(rand.NewSource(254))
	for range 2000 {
		old, keys := some(r, 9, 5), wanted(r, 9, 5)
		these, others := roomy(old), roomy(keys)
		got, again := of(these[:len(old)], others[:len(keys)]), of(these[:len(old)], others[:len(keys)])
		if !slices.Equal(these, roomy(old)) || !slices.Equal(others, roomy(keys)) {
			t.Fatalf("%v and %q have become %v and %q", old, keys, these, others)
		}
		clear(these)
		clear(others)
		for _, l := range [][]int{again.take, again.leave, again.new, again.back, again.kept, again.ghosts} {
			clear(l)
		}
		if want := model(old, keys); !got.same(want) {
			t.Fatalf("a change elsewhere has made %+v of %+v", got, want)
		}
		p := group.Of(old, keys)
		for _, l := range [][]int{p.New(), p.Back(old), p.Kept(old), p.Ghosts(old)} {
			for i := range l {
				l[i] = 77
			}
		}
		if want := model(old, keys); !slices.Equal(p.Take, want.take) || !slices.Equal(p.Leave, want.leave) {
			t.Fatalf("a change of a result has made %+v of %+v", p, want)
		}
	}
}

// P1: long lists end soon, with one key as well as with many.
func TestLong(t *testing.T) {
	const long = 1 << 17
	old := make([]group.Kid, long)
	keys := make([]string, long)
	for i := range long {
		old[i] = group.Kid{Key: strconv.Itoa(i), Ghost: i%2 > 0}
		keys[i] = strconv.Itoa(long + long/2 - 1 - i)
	}
	got := of(old, keys)
	if len(got.take) != long || got.take[long-1] != long/2 || len(got.leave) != long/4 || len(got.new) != long/2 || len(got.back) != long/4 || len(got.kept) != long/4 || len(got.ghosts) != long/2 {
		t.Errorf("of many kids %d are taken and %d leave", len(got.take), len(got.leave))
	}
	got = of(slices.Repeat(kids("a* a"), long/2), slices.Repeat([]string{"a"}, long))
	if got.take[0] != 1 || len(got.leave) != long/2-1 || len(got.new) != long-1 || len(got.kept) != 1 || len(got.back) != 0 || len(got.ghosts) != long-1 {
		t.Errorf("of many kids with one key %d leave", len(got.leave))
	}
}
