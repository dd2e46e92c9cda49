package classes_test

import (
	"slices"
	"strconv"
	"strings"
	"testing"

	"scrim/classes"
)

// words splits a text at its spaces; an empty text has no words.
func words(s string) []string { return strings.Fields(s) }

// lists returns all lists of up to most of the names.
func lists(names []string, most int) [][]string {
	all := [][]string{nil}
	for from := 0; most > 0; most-- {
		to := len(all)
		for _, l := range all[from:to] {
			for _, c := range names {
				all = append(all, append(slices.Clone(l), c))
			}
		}
		from = to
	}
	return all
}

// once is Clean, spelt out independently of the program.
func once(l []string) []string {
	var kept []string
	for _, c := range l {
		if !slices.Contains(kept, c) {
			kept = append(kept, c)
		}
	}
	return kept
}

// perform is one step on a clean list, spelt out independently of the program.
func perform(l []string, s classes.Step) []string {
	switch {
	case !s.Drop && slices.Contains(l, s.Name):
		return l
	case !s.Drop:
		return append(slices.Clone(l), s.Name)
	}
	var kept []string
	for _, c := range l {
		if c != s.Name {
			kept = append(kept, c)
		}
	}
	return kept
}

func told(l []string) string { return strconv.Quote(strings.Join(l, "|")) }

func same(t *testing.T, what string, got, want []string) {
	t.Helper()
	if !slices.Equal(got, want) {
		t.Errorf("%s is %s, wanted %s", what, told(got), told(want))
	}
}

// steps reads a Drop as -name, and an Add as +name.
func steps(s string) []classes.Step {
	var l []classes.Step
	for _, w := range words(s) {
		l = append(l, classes.Step{Drop: w[0] == '-', Name: w[1:]})
	}
	return l
}

// P3.1: the first of each name is kept.
func TestClean(t *testing.T) {
	for in, want := range map[string]string{
		"": "", "a": "a", "a a": "a", "a a a": "a", "a b": "a b", "b a": "b a",
		"a b a c b": "a b c", "c b c a b c": "c b a", "t-x t-x a": "t-x a", "A a A 1 -": "A a 1 -",
	} {
		same(t, "Clean of "+in, classes.Clean(words(in)), words(want))
	}
	for _, l := range lists(words("a b c"), 5) {
		same(t, "Clean of "+told(l), classes.Clean(l), once(l))
	}
}

// P3.1: names of any bytes are names here, the empty one too.
func TestAnyBytes(t *testing.T) {
	odd := []string{"", " ", "a", "a ", "\x00", "\xff", "\u00e4", "a\u0308", "t-", strings.Repeat("x", 1<<16)}
	same(t, "Clean", classes.Clean(slices.Concat(odd, odd)), odd)
	for i, c := range odd {
		rest := slices.Concat(odd[:i], odd[i+1:])
		if !classes.Has(odd, c) || classes.Has(rest, c) {
			t.Errorf("Has %.9q", c)
		}
		same(t, "Drop", classes.Drop(odd, c), rest)
		same(t, "Add of one that occurs", classes.Add(odd, c), odd)
		same(t, "Add", classes.Add(rest, c), append(slices.Clone(rest), c))
		same(t, "Apply of Turn", classes.Apply(odd, classes.Turn(odd, rest)), rest)
		same(t, "Apply of Turn back", classes.Apply(rest, classes.Turn(rest, odd)), odd)
	}
}

// P3.1: Has asks for the whole name.
func TestHas(t *testing.T) {
	for _, c := range []struct {
		list, name string
		want       bool
	}{
		{"", "a", false}, {"", "", false}, {"a", "", false}, {"a", "a", true}, {"b c a", "a", true}, {"a a", "a", true},
		{"ab", "a", false}, {"a", "ab", false}, {"A", "a", false}, {"b c", "a", false},
	} {
		if classes.Has(words(c.list), c.name) != c.want {
			t.Errorf("Has %q %q is %v", c.list, c.name, !c.want)
		}
	}
}

// P3.1: Same asks for the same names in the same order, and nil is equivalent
// to empty.
func TestSame(t *testing.T) {
	for _, a := range lists(words("a b c"), 3) {
		for _, b := range lists(words("a b c"), 3) {
			if got, want := classes.Same(a, b), told(a) == told(b); got != want {
				t.Errorf("Same of %s and %s is %v", told(a), told(b), got)
			}
		}
	}
	if !classes.Same(nil, []string{}) || !classes.Same([]string{}, nil) || !classes.Same(nil, nil) {
		t.Error("nil and empty are not the same")
	}
	if classes.Same(nil, []string{""}) || classes.Same([]string{"ab"}, []string{"a", "b"}) {
		t.Error("lists of other names are the same")
	}
}

// P3.1: Add and Drop of lists, also of those with repetitions, which stay.
func TestAddAndDrop(t *testing.T) {
	for _, c := range []struct{ list, name, added, dropped string }{
		{"", "a", "a", ""}, {"a", "a", "a", ""}, {"b", "a", "b a", "b"}, {"a b", "a", "a b", "b"},
		{"b a c", "a", "b a c", "b c"}, {"a a", "a", "a a", ""}, {"a b a", "a", "a b a", "b"},
		{"b b", "a", "b b a", "b b"}, {"ab", "a", "ab a", "ab"}, {"c b", "t-x", "c b t-x", "c b"},
	} {
		same(t, "Add of "+c.name+" to "+c.list, classes.Add(words(c.list), c.name), words(c.added))
		same(t, "Drop of "+c.name+" from "+c.list, classes.Drop(words(c.list), c.name), words(c.dropped))
	}
}

// P3.1: Mine asks for the beginning only.
func TestMine(t *testing.T) {
	for in, want := range map[string]string{
		"": "", "t-": "", "t-x t-y": "", "a": "a", "a t-move t t-": "a t", "t-enter-to b t-wait a b": "b a b",
		"T-x tt- -t- at-x t_ t": "T-x tt- -t- at-x t_ t",
	} {
		same(t, "Mine of "+in, classes.Mine(words(in)), words(want))
	}
	same(t, "Mine of odd names", classes.Mine([]string{"", " t-x", "t-\xff", "t- "}), []string{"", " t-x"})
}

// P3.1: the steps of Turn, in their order.
func TestTurnInWords(t *testing.T) {
	for _, c := range []struct{ a, b, want string }{
		{"", "", ""}, {"a", "a", ""}, {"a b", "a b", ""}, {"", "b a", "+b +a"}, {"b a", "", "-b -a"},
		{"a b c", "a c d", "-b +d"}, {"a b", "b a", "-a +a"}, {"a b c", "c b a", "-a -b +b +a"},
		{"b c", "a b c", "-b -c +a +b +c"}, {"a b c", "a b", "-c"}, {"a b c", "b c", "-a"}, {"a b c", "a c b", "-b +b"},
		{"c b a", "x y", "-c -b -a +x +y"}, {"a b c d", "b d a", "-a -c +a"},
		{"a b a", "b a b", "-a +a"}, {"a a", "a", ""}, {"a", "a a b b", "+b"}, {"t-x a", "a t-x", "-t-x +t-x"},
	} {
		if got := classes.Turn(words(c.a), words(c.b)); !slices.Equal(got, steps(c.want)) {
			t.Errorf("Turn of %q to %q is %v, wanted %s", c.a, c.b, got, c.want)
		}
	}
}

// longest returns how many names at the beginning of b occur in a in this order,
// by trying each number.
func longest(a, b []string) int {
	for n := len(b); ; n-- {
		rest := a
		for _, c := range b[:n] {
			at := slices.Index(rest, c)
			if at < 0 {
				rest = nil
				break
			}
			rest = rest[at+1:]
		}
		if n == 0 || rest != nil {
			return n
		}
	}
}

// P3.1: the steps of Turn between all short lists, with repetitions as well.
func TestTurn(t *testing.T) {
	all := lists(words("a b c"), 4)
	for _, from := range all {
		for _, to := range all {
			a, b := once(from), once(to)
			kept := longest(a, b)
			var want []classes.Step
			for _, c := range a {
				if !slices.Contains(b[:kept], c) {
					want = append(want, classes.Step{Drop: true, Name: c})
				}
			}
			for _, c := range b[kept:] {
				want = append(want, classes.Step{Name: c})
			}
			if got := classes.Turn(from, to); !slices.Equal(got, want) {
				t.Fatalf("Turn of %s to %s is %v, wanted %v", told(from), told(to), got, want)
			}
		}
	}
}

// P3.1: Apply performs any steps in any order, also those that change nothing.
func TestApply(t *testing.T) {
	var every []classes.Step
	for _, c := range words("a b c") {
		every = append(every, classes.Step{Name: c}, classes.Step{Drop: true, Name: c})
	}
	for _, l := range lists(words("a b"), 3) {
		for _, x := range every {
			for _, y := range every {
				for _, z := range every {
					want := perform(perform(perform(once(l), x), y), z)
					same(t, "Apply", classes.Apply(l, []classes.Step{x, y, z}), want)
				}
			}
		}
		same(t, "Apply of no steps", classes.Apply(l, nil), once(l))
	}
	same(t, "Apply", classes.Apply(words("a b a"), steps("-a +a +b -x +c +c -c +c")), words("b a c"))
}

// P3.2: Apply of Turn(a, b) to a is b, without repetitions.
func TestThere(t *testing.T) {
	all := lists(words("a b c d"), 4)
	for _, a := range all {
		for _, b := range all {
			same(t, "Apply of Turn of "+told(a)+" to "+told(b), classes.Apply(a, classes.Turn(a, b)), once(b))
		}
	}
}

// place is a list, and whether only Adds may still follow.
type place struct {
	list   string
	adding bool
}

// nearest returns how many steps (Drops, followed by Adds) lead from a to each
// list of the names, at the least.
func nearest(a, names []string) map[string]int {
	far := map[place]int{{told(a), false}: 0}
	type state struct {
		list   []string
		adding bool
	}
	for work := []state{{a, false}}; len(work) > 0; work = work[1:] {
		here := work[0]
		n := far[place{told(here.list), here.adding}]
		for _, c := range names {
			for _, drop := range []bool{true, false} {
				if drop && here.adding {
					continue
				}
				next := state{perform(here.list, classes.Step{Drop: drop, Name: c}), !drop}
				at := place{told(next.list), next.adding}
				if _, known := far[at]; !known {
					far[at] = n + 1
					work = append(work, next)
				}
			}
		}
	}
	least := map[string]int{}
	for at, n := range far {
		if m, known := least[at.list]; !known || n < m {
			least[at.list] = n
		}
	}
	return least
}

// P3.2 and P7: no smaller number of steps leads there.
func TestLeast(t *testing.T) {
	names := words("a b c d")
	var clean [][]string
	for _, l := range lists(names, 4) {
		if len(once(l)) == len(l) {
			clean = append(clean, l)
		}
	}
	for _, a := range clean {
		least := nearest(a, names)
		for _, b := range clean {
			n, known := least[told(b)]
			if got := len(classes.Turn(a, b)); !known || got != n {
				t.Errorf("Turn of %s to %s has %d steps, wanted %d", told(a), told(b), got, n)
			}
		}
	}
}

// P3.2: Drops come first.
func TestDropsFirst(t *testing.T) {
	all := lists(words("a b c"), 3)
	for _, a := range all {
		for _, b := range all {
			adding := false
			for _, s := range classes.Turn(a, b) {
				if s.Drop && adding {
					t.Errorf("Turn of %s to %s drops after it has added", told(a), told(b))
				}
				adding = !s.Drop
			}
		}
	}
}

// calls returns what each function makes of a list.
func calls(l []string) [][]string {
	some := steps("-b +d")
	return [][]string{
		classes.Clean(l), classes.Add(l, "d"), classes.Add(l, "a"), classes.Drop(l, "a"), classes.Drop(l, "d"),
		classes.Mine(l), classes.Apply(l, nil), classes.Apply(l, some),
	}
}

// Rule 5: no list that is passed is changed, nor what lies behind it, and
// nothing that is returned lies where it lies.
func TestMemory(t *testing.T) {
	for _, l := range []string{"a b c", "a a b", "t-x a b", "x y", "a"} {
		behind := append(words(l), "spare", "room")
		given := behind[:len(behind)-2]
		untouched := slices.Clone(behind)
		for i, got := range calls(given) {
			if !slices.Equal(behind, untouched) {
				t.Fatalf("call %d changed %s to %s", i, told(untouched), told(behind))
			}
			got = append(got[:cap(got)], "more")
			for j := range got {
				got[j] = "written"
			}
			if !slices.Equal(behind, untouched) {
				t.Fatalf("the result of call %d shares memory with %s", i, told(untouched))
			}
		}
		classes.Has(given, "a")
		classes.Same(given, given)
		classes.Turn(given, words("b d"))
		classes.Turn(words("b d"), given)
		if !slices.Equal(behind, untouched) {
			t.Errorf("%s became %s", told(untouched), told(behind))
		}
	}
}

// Rule 5: steps that are passed are not changed either.
func TestStepsStay(t *testing.T) {
	behind := steps("-a +b -c +spare")
	classes.Apply(words("a c"), behind[:3])
	if !slices.Equal(behind, steps("-a +b -c +spare")) {
		t.Errorf("the steps are %v afterwards", behind)
	}
}

// P1: nothing is too long, and what is not there does no harm.
func TestAnyLength(t *testing.T) {
	var up []string
	for i := range 50000 {
		up = append(up, strconv.Itoa(i))
	}
	down := slices.Clone(up)
	slices.Reverse(down)
	twice := slices.Concat(up, down)
	same(t, "Clean of a long list", classes.Clean(twice), up)
	same(t, "Apply of a long Turn", classes.Apply(twice, classes.Turn(twice, down)), down)
	if n := len(classes.Turn(up, down)); n != 2*len(up)-2 {
		t.Errorf("a long Turn has %d steps", n)
	}
	for i, got := range [][]string{
		classes.Clean(nil), classes.Drop(nil, "a"), classes.Mine(nil), classes.Apply(nil, nil), classes.Apply(nil, steps("-a")),
	} {
		if len(got) != 0 {
			t.Errorf("call %d makes %s of nothing", i, told(got))
		}
	}
	if classes.Has(nil, "") || len(classes.Turn(nil, nil)) != 0 || len(classes.Add(nil, "")) != 1 {
		t.Error("nothing is something")
	}
}
