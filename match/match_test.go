package match_test

import (
	"math"
	"math/rand"
	"slices"
	"strings"
	"testing"

	"scrim/match"
)

// kids of one kind, whose keys stand in one text; - is one without a key.
func kids(keys string) []match.Kid {
	var l []match.Kid
	for _, key := range strings.Fields(keys) {
		l = append(l, match.Kid{Kind: 2, Key: strings.Trim(key, "-")})
	}
	return l
}

// keyless tells how many of the kids have an empty key.
func keyless(l []match.Kid) int {
	n := 0
	for _, kid := range l {
		if kid.Key == "" {
			n++
		}
	}
	return n
}

// correspond is what the document says of the old kid i and the new kid j.
func correspond(old, new []match.Kid, i, j int) bool {
	return old[i].Kind == new[j].Kind && old[i].Key == new[j].Key &&
		(old[i].Key != "" || keyless(old[:i]) == keyless(new[:j]))
}

// pairs is Pair, spelt out independently of the program.
func pairs(old, new []match.Kid) []int {
	var l []int
	for j := range new {
		at := slices.IndexFunc(upTo(len(old)), func(i int) bool {
			return correspond(old, new, i, j) && !slices.Contains(l, i)
		})
		l = append(l, at)
	}
	return l
}

// upTo returns 0 to n-1.
func upTo(n int) []int {
	var l []int
	for i := range n {
		l = append(l, i)
	}
	return l
}

// paired reports whether the two kids are paired with each other.
func paired(l []int, i, j int) bool { return l[j] == i }

// ends are Front and Back, spelt out: the two lists lose kids that are paired as
// long as there are some.
func ends(old, new []match.Kid) (front, back int) {
	l := pairs(old, new)
	for front < len(old) && front < len(new) && paired(l, front, front) {
		front++
	}
	for i, j := len(old)-1, len(new)-1; i >= front && j >= front && paired(l, i, j); i, j = i-1, j-1 {
		back++
	}
	return front, back
}

// agree holds all functions against the model.
func agree(t *testing.T, old, new []match.Kid) {
	t.Helper()
	want := pairs(old, new)
	if got := match.Pair(old, new); !slices.Equal(got, want) {
		t.Fatalf("Pair of %v and %v is %v, wanted %v", old, new, got, want)
	}
	gone := slices.DeleteFunc(upTo(len(old)), func(i int) bool { return slices.Contains(want, i) })
	if got := match.Gone(old, new); !slices.Equal(got, gone) {
		t.Fatalf("Gone of %v and %v is %v, wanted %v", old, new, got, gone)
	}
	front, back := ends(old, new)
	if f, b := match.Front(old, new), match.Back(old, new); f != front || b != back {
		t.Fatalf("Front and Back of %v and %v are %d %d, wanted %d %d", old, new, f, b, front, back)
	}
}

// P11.1: the document's example, and the edges.
func TestExamples(t *testing.T) {
	for _, c := range []struct {
		old, new    string
		pair, gone  []int
		front, back int
	}{
		{"a - b", "- b c", []int{1, 2, -1}, []int{0}, 0, 0},
		{"", "", nil, nil, 0, 0}, {"", "a -", []int{-1, -1}, nil, 0, 0}, {"a -", "", nil, []int{0, 1}, 0, 0},
		{"a b c", "a b c", []int{0, 1, 2}, nil, 3, 0}, {"a b c", "c b a", []int{2, 1, 0}, nil, 0, 0},
		{"a b c d", "a x c d", []int{0, -1, 2, 3}, []int{1}, 1, 2}, {"a b", "x b", []int{-1, 1}, []int{0}, 0, 1},
		{"a b", "a x b", []int{0, -1, 1}, nil, 1, 1}, {"a x b", "a b", []int{0, 2}, []int{1}, 1, 1},
		{"a b c", "a c", []int{0, 2}, []int{1}, 1, 1}, {"a b", "a b c", []int{0, 1, -1}, nil, 2, 0},
		{"b c", "a b c", []int{-1, 0, 1}, nil, 0, 2}, {"a b c", "b c", []int{1, 2}, []int{0}, 0, 2},
		{"a a", "a a a", []int{0, 1, -1}, nil, 2, 0}, {"a a a", "a a", []int{0, 1}, []int{2}, 2, 0},
		{"a b a", "a", []int{0}, []int{1, 2}, 1, 0}, {"b a a", "a a b", []int{1, 2, 0}, nil, 0, 0},
		{"a", "b a a", []int{-1, 0, -1}, nil, 0, 0}, {"x a", "a a", []int{1, -1}, []int{0}, 0, 0},
		{"- - -", "-", []int{0}, []int{1, 2}, 1, 0}, {"-", "a - - a", []int{-1, 0, -1, -1}, nil, 0, 0},
		{"a - -", "- - a", []int{1, 2, 0}, nil, 0, 0}, {"- a -", "- -", []int{0, 2}, []int{1}, 1, 1},
	} {
		old, new := kids(c.old), kids(c.new)
		if got := match.Pair(old, new); !slices.Equal(got, c.pair) {
			t.Errorf("Pair of %s and %s is %v, wanted %v", c.old, c.new, got, c.pair)
		}
		if got := match.Gone(old, new); !slices.Equal(got, c.gone) {
			t.Errorf("Gone of %s and %s is %v, wanted %v", c.old, c.new, got, c.gone)
		}
		if f, b := match.Front(old, new), match.Back(old, new); f != c.front || b != c.back {
			t.Errorf("Front and Back of %s and %s are %d %d, wanted %d %d", c.old, c.new, f, b, c.front, c.back)
		}
		agree(t, old, new)
	}
}

// P11.1: kids of another kind do not correspond, though those without a key count,
// of whatever kind they are.
func TestKinds(t *testing.T) {
	kid := func(kind int, key string) match.Kid { return match.Kid{Kind: kind, Key: key} }
	for _, c := range []struct {
		old, new []match.Kid
		want     []int
	}{
		{[]match.Kid{kid(2, "a")}, []match.Kid{kid(1, "a")}, []int{-1}},
		{[]match.Kid{kid(1, "a"), kid(2, "a")}, []match.Kid{kid(2, "a"), kid(1, "a"), kid(0, "a")}, []int{1, 0, -1}},
		{[]match.Kid{kid(1, ""), kid(2, "")}, []match.Kid{kid(2, ""), kid(1, "")}, []int{-1, -1}},
		{[]match.Kid{kid(1, ""), kid(2, "")}, []match.Kid{kid(1, ""), kid(2, "")}, []int{0, 1}},
		{[]match.Kid{kid(1, ""), kid(2, "")}, []match.Kid{kid(3, ""), kid(2, "")}, []int{-1, 1}},
		{[]match.Kid{kid(1, ""), kid(2, "")}, []match.Kid{kid(2, "")}, []int{-1}},
		{[]match.Kid{kid(1, ""), kid(2, "")}, []match.Kid{kid(1, "a"), kid(1, "")}, []int{-1, 0}},
		{[]match.Kid{kid(0, ""), kid(0, "")}, []match.Kid{kid(1, ""), kid(0, "")}, []int{-1, 1}},
		{[]match.Kid{kid(math.MinInt, "\x00\xff"), kid(math.MaxInt, " ")}, []match.Kid{kid(math.MaxInt, " "), kid(math.MinInt, "\x00\xff")}, []int{1, 0}},
		{[]match.Kid{kid(1, "t-a"), kid(1, "A")}, []match.Kid{kid(1, "a"), kid(1, "t-a")}, []int{-1, 0}},
	} {
		if got := match.Pair(c.old, c.new); !slices.Equal(got, c.want) {
			t.Errorf("Pair of %v and %v is %v, wanted %v", c.old, c.new, got, c.want)
		}
		agree(t, c.old, c.new)
	}
}

// everyList passes all lists of up to n kids, of six different ones.
func everyList(n int, pass func([]match.Kid)) {
	var grow func(l []match.Kid)
	grow = func(l []match.Kid) {
		pass(l)
		if len(l) == n {
			return
		}
		for kind := range 2 {
			for _, key := range []string{"", "a", "b"} {
				grow(append(slices.Clone(l), match.Kid{Kind: kind, Key: key}))
			}
		}
	}
	grow(nil)
}

// P11.1: every two lists of up to three kids.
func TestAllShortLists(t *testing.T) {
	everyList(3, func(old []match.Kid) {
		everyList(3, func(new []match.Kid) { agree(t, old, new) })
	})
}

// some returns kids with few or many different names.
func some(r *rand.Rand, most, span int) []match.Kid {
	l := make([]match.Kid, r.Intn(most+1))
	for i := range l {
		l[i].Kind = r.Intn(1 + span/4)
		if r.Intn(3) > 0 {
			l[i].Key = string(rune('a' + r.Intn(span)))
		}
	}
	return l
}

// edited is a list with some kids removed, added or moved.
func edited(r *rand.Rand, l []match.Kid, span int) []match.Kid {
	l = slices.Clone(l)
	for range r.Intn(4) {
		if i := r.Intn(len(l) + 1); i < len(l) {
			l = slices.Delete(l, i, i+1)
		}
		l = slices.Insert(l, r.Intn(len(l)+1), some(r, 2, span)...)
	}
	return l
}

// P11.1: longer lists, which have much or little in common.
func TestAgainstModel(t *testing.T) {
	r := rand.New(rand.NewSource(11))
	for range 10000 {
		span := 1 + r.Intn(20)
		old := some(r, 20, span)
		new := some(r, 20, span)
		if r.Intn(2) > 0 {
			new = edited(r, old, span)
		}
		agree(t, old, new)
	}
}

// unique returns the list without repetitions of a key.
func unique(l []match.Kid) []match.Kid {
	seen := map[string]bool{}
	return slices.DeleteFunc(slices.Clone(l), func(kid match.Kid) bool {
		again := seen[kid.Key] && kid.Key != ""
		seen[kid.Key] = true
		return again
	})
}

// P11.2: no old kid is paired twice, and only with one that corresponds to it; if
// no key occurs twice in a list, all that correspond are paired.
func TestNoneTwice(t *testing.T) {
	r := rand.New(rand.NewSource(12))
	for range 10000 {
		old, new := some(r, 12, 6), some(r, 12, 6)
		var has []int
		for j, i := range match.Pair(old, new) {
			if i >= 0 && (!correspond(old, new, i, j) || slices.Contains(has, i)) {
				t.Fatalf("%v and %v: the old kid %d is paired with %d", old, new, i, j)
			}
			has = append(has, i)
		}
		old, new = unique(old), unique(new)
		l := match.Pair(old, new)
		for i := range old {
			for j := range new {
				if correspond(old, new, i, j) != paired(l, i, j) {
					t.Fatalf("%v and %v: %d and %d are paired: %v", old, new, i, j, paired(l, i, j))
				}
			}
		}
	}
}

// P1: nothing that is passed is changed, nor is memory shared with it.
func TestMemory(t *testing.T) {
	spare := func(keys string) []match.Kid { return append(make([]match.Kid, 0, 9), kids(keys)...) }
	old, new := spare("a - b"), spare("- b c")
	pair, gone := match.Pair(old, new), match.Gone(old, new)
	match.Front(old, new)
	match.Back(old, new)
	blank := make([]match.Kid, 6)
	if !slices.Equal(old[:9], append(kids("a - b"), blank...)) || !slices.Equal(new[:9], append(kids("- b c"), blank...)) {
		t.Errorf("what was passed is %v and %v", old[:9], new[:9])
	}
	clear(old)
	clear(new)
	clear(match.Pair(kids("a - b"), kids("- b c")))
	clear(match.Gone(kids("a - b"), kids("- b c")))
	if !slices.Equal(pair, []int{1, 2, -1}) || !slices.Equal(gone, []int{0}) {
		t.Errorf("a change elsewhere made %v and %v", pair, gone)
	}
}

// P1: long lists end soon, also those whose kids have all the same name or none.
func TestLongLists(t *testing.T) {
	const long = 1 << 17
	for _, kid := range []match.Kid{{}, {Key: "a"}, {Kind: 1, Key: strings.Repeat("a", 16)}} {
		l := slices.Repeat([]match.Kid{kid}, long)
		if got := match.Pair(l, l[1:]); len(got) != long-1 || got[0] != 0 || got[long-2] != long-2 {
			t.Errorf("Pair of many %v has %d", kid, len(got))
		}
		if got := match.Gone(l, l[1:]); !slices.Equal(got, []int{long - 1}) {
			t.Errorf("Gone of many %v is %v", kid, got)
		}
		if f, b := match.Front(l, l[1:]), match.Back(l, l[1:]); f != long-1 || b != 0 {
			t.Errorf("Front and Back of many %v are %d %d", kid, f, b)
		}
	}
	l := make([]match.Kid, long)
	for i := range l {
		l[i] = match.Kid{Kind: i, Key: "a"}
	}
	if f, b := match.Front(l, l[1:]), match.Back(l, l[1:]); f != 0 || b != long-1 {
		t.Errorf("Front and Back of many kinds are %d %d", f, b)
	}
}
