package props_test

import (
	"math"
	"slices"
	"strconv"
	"strings"
	"testing"

	"scrim/props"
)

type (
	pair = props.Pair[int]
	step = props.Step[int]
	pmap = props.Map[int]
)

// pairs reads pairs such as a1, of a name and a digit.
func pairs(s string) []pair {
	var l []pair
	for _, w := range strings.Fields(s) {
		end := len(w) - 1
		l = append(l, pair{Name: w[:end], Value: int(w[end] - '0')})
	}
	return l
}

// steps reads -a as a Drop, and a1 as a pair to be set.
func steps(s string) []step {
	var l []step
	for _, w := range strings.Fields(s) {
		if w[0] == '-' {
			l = append(l, step{Drop: true, Name: w[1:]})
			continue
		}
		p := pairs(w)[0]
		l = append(l, step{Name: p.Name, Value: p.Value})
	}
	return l
}

// latest is Of, spelt out independently of the program.
func latest(l []pair) []pair {
	values := map[string]int{}
	for _, p := range l {
		values[p.Name] = p.Value
	}
	return ordered(values)
}

func ordered(values map[string]int) []pair {
	var names []string
	for c := range values {
		names = append(names, c)
	}
	slices.Sort(names)
	var l []pair
	for _, c := range names {
		l = append(l, pair{Name: c, Value: values[c]})
	}
	return l
}

// lists returns all lists of up to most of the pairs.
func lists(of []pair, most int) [][]pair {
	all := [][]pair{nil}
	for from := 0; most > 0; most-- {
		to := len(all)
		for _, l := range all[from:to] {
			for _, p := range of {
				all = append(all, append(slices.Clone(l), p))
			}
		}
		from = to
	}
	return all
}

func same(t *testing.T, what string, got pmap, want []pair) {
	t.Helper()
	if !slices.Equal(got, want) {
		t.Errorf("%s is %v, wanted %v", what, got, want)
	}
}

// P4.1: pairs in the order of their names, of which the last one counts.
func TestOf(t *testing.T) {
	for in, want := range map[string]string{
		"": "", "a1": "a1", "a1 a2": "a2", "a2 a1": "a1", "b1 a2 b3": "a2 b3", "c1 b2 a3": "a3 b2 c1",
		"a1 b1 a2 b2 a3": "a3 b2", "t-x1 a1": "a1 t-x1", "aa1 a2 ab3 b4": "a2 aa1 ab3 b4", "a-1 a2 a03 B4": "B4 a2 a-1 a03",
	} {
		same(t, "Of "+in, props.Of(pairs(in)...), pairs(want))
	}
	for _, l := range lists(pairs("a1 a2 b1 c1"), 5) {
		same(t, "Of", props.Of(l...), latest(l))
	}
	if len(props.Of[int]()) != 0 {
		t.Error("Of nothing is something")
	}
}

// P4.1: the last one counts in long lists too, where an unstable order of sorting
// would tell.
func TestTheLastOfMany(t *testing.T) {
	names := strings.Fields("a b c d e f g")
	var l []pair
	var some []step
	for i := range 5000 {
		p := pair{Name: names[i*i%len(names)], Value: i}
		l = append(l, p)
		some = append(some, step{Drop: i%3 == 0, Name: p.Name, Value: i})
		if i%97 != 0 {
			continue
		}
		same(t, "Of many", props.Of(l...), latest(l))
		var want []pair
		for _, s := range some {
			want = perform(want, s)
		}
		same(t, "Apply of many", props.Apply(nil, some), want)
	}
}

// P4.1: the order is that of bytes, and names may have any.
func TestAnyBytes(t *testing.T) {
	odd := []string{"", "\x00", "\x00\x00", " ", "-", "A", "_", "a", "a ", "a\u0308", "t-", strings.Repeat("x", 1<<16), "\u00e4", "\u65e5", "\uffff", "\U00010000", "\xff"}
	var l []pair
	for i, c := range slices.Backward(odd) {
		l = append(l, pair{Name: c, Value: i})
	}
	m := props.Of(l...)
	if len(m) != len(odd) {
		t.Fatalf("Of has %d pairs, wanted %d", len(m), len(odd))
	}
	for i, c := range odd {
		if m[i].Name != c {
			t.Errorf("name %d is %.9q, wanted %.9q", i, m[i].Name, c)
		}
		if v, is := m.Get(c); v != i || !is {
			t.Errorf("Get of %.9q is %d %v", c, v, is)
		}
		if _, is := m.Drop(c).Get(c); is || len(m.Drop(c)) != len(m)-1 {
			t.Errorf("Drop of %.9q", c)
		}
	}
}

// unformed returns every list of up to three of the pairs: ordered or not, with
// or without repetitions.
func unformed() [][]pair { return lists(pairs("a1 a2 b1 b2 c1 t-x1"), 3) }

// P4.1: Get of a Map of any form; the value is zero if there is none.
func TestGet(t *testing.T) {
	for _, l := range unformed() {
		for _, c := range []string{"", "a", "b", "c", "t-x", "t-", "aa", "A"} {
			value, there := 0, false
			for _, p := range latest(l) {
				if p.Name == c {
					value, there = p.Value, true
				}
			}
			if v, is := pmap(l).Get(c); v != value || is != there {
				t.Errorf("Get of %q from %v is %d %v", c, l, v, is)
			}
		}
	}
}

// P4.1: Set and Drop of a Map of any form.
func TestSetAndDrop(t *testing.T) {
	for _, l := range unformed() {
		for _, c := range []string{"", "a", "aa", "b", "c", "t-x", "z"} {
			for v := range 3 {
				same(t, "Set", pmap(l).Set(c, v), latest(append(slices.Clone(l), pair{Name: c, Value: v})))
			}
			var rest []pair
			for _, p := range latest(l) {
				if p.Name != c {
					rest = append(rest, p)
				}
			}
			same(t, "Drop", pmap(l).Drop(c), rest)
		}
	}
}

// P4.1: Mine asks for the beginning of names only, in a Map of any form.
func TestMine(t *testing.T) {
	for in, want := range map[string]string{
		"": "", "a1": "a1", "t-1": "", "t-dx1 w2": "w2", "t-dx1 t-dy2": "", "t1 tt-2 at-x3 T-x4 -t-5 t_6": "-t-5 T-x4 at-x3 t1 t_6 tt-2",
		"w1 t-x1 a2 w3 t-x4": "a2 w3",
	} {
		same(t, "Mine of "+in, pmap(pairs(in)).Mine(), pairs(want))
	}
}

// P4.1: Same of Maps of any form.
func TestSame(t *testing.T) {
	all := lists(pairs("a1 a2 b1 c1"), 3)
	for _, a := range all {
		for _, b := range all {
			if got, want := pmap(a).Same(b), slices.Equal(latest(a), latest(b)); got != want {
				t.Errorf("Same of %v and %v is %v", a, b, got)
			}
		}
	}
	if !pmap(nil).Same(pmap{}) || !(pmap{}).Same(nil) || (pmap{}).Same(pmap{{}}) {
		t.Error("Same of nothing")
	}
}

// P4.1: the steps of Turn, in their order, with no value beside a Drop.
func TestTurnInWords(t *testing.T) {
	for _, c := range []struct{ a, b, want string }{
		{"", "", ""}, {"a1", "a1", ""}, {"a1", "a2", "a2"}, {"", "b1 a2", "a2 b1"}, {"b1 a2", "", "-a -b"},
		{"a1 b2", "b3 c4", "-a b3 c4"}, {"a1 b2 c3", "b2", "-a -c"}, {"z1 m1", "a1 n1", "-m -z a1 n1"},
		{"a1 a2", "a2", ""}, {"a2 a1", "a2", "a2"}, {"b1 a1 b2", "b2 c1 c3 b4", "-a b4 c3"},
		{"t-x1", "t-y1", "-t-x t-y1"}, {"a0", "a1", "a1"}, {"a1", "a0", "a0"}, {"", "a0", "a0"},
	} {
		if got := props.Turn(pmap(pairs(c.a)), pmap(pairs(c.b))); !slices.Equal(got, steps(c.want)) {
			t.Errorf("Turn of %q to %q is %v, wanted %s", c.a, c.b, got, c.want)
		}
	}
}

// P4.1: the steps of Turn between Maps of any form.
func TestTurn(t *testing.T) {
	all := unformed()
	for _, a := range all {
		for _, b := range all {
			from, to := latest(a), latest(b)
			var want []step
			for _, p := range from {
				if !slices.ContainsFunc(to, func(q pair) bool { return q.Name == p.Name }) {
					want = append(want, step{Drop: true, Name: p.Name})
				}
			}
			for _, p := range to {
				if !slices.Contains(from, p) {
					want = append(want, step{Name: p.Name, Value: p.Value})
				}
			}
			if got := props.Turn(pmap(a), pmap(b)); !slices.Equal(got, want) {
				t.Fatalf("Turn of %v to %v is %v, wanted %v", a, b, got, want)
			}
		}
	}
}

// perform is one step on a Map that has its form, spelt out independently of
// the program.
func perform(l []pair, s step) []pair {
	values := map[string]int{}
	for _, p := range l {
		values[p.Name] = p.Value
	}
	if s.Drop {
		delete(values, s.Name)
	} else {
		values[s.Name] = s.Value
	}
	return ordered(values)
}

// P4.1: Apply performs any steps in any order; the value beside a Drop does not
// matter.
func TestApply(t *testing.T) {
	every := append(steps("a1 a2 b1 -a -b"), step{Drop: true, Name: "a", Value: 7})
	for _, l := range lists(pairs("a1 b1 a3"), 2) {
		for _, x := range every {
			for _, y := range every {
				for _, z := range every {
					want := perform(perform(perform(latest(l), x), y), z)
					same(t, "Apply", props.Apply(pmap(l), []step{x, y, z}), want)
				}
			}
		}
		same(t, "Apply of no steps", props.Apply(pmap(l), nil), latest(l))
	}
	same(t, "Apply", props.Apply(pmap(pairs("d1 b1 b2 a1")), steps("-x c1 -a c2 a3 -b")), pairs("a3 c2 d1"))
}

// P4.2: Apply of Turn(a, b) to a is b, whatever form they have.
func TestThere(t *testing.T) {
	all := unformed()
	for _, a := range all {
		for _, b := range all {
			same(t, "Apply of Turn", props.Apply(pmap(a), props.Turn(pmap(a), pmap(b))), latest(b))
		}
	}
}

func key(l []pair) string {
	var s strings.Builder
	for _, p := range l {
		s.WriteString(p.Name + strconv.Itoa(p.Value) + " ")
	}
	return s.String()
}

// nearest returns how many steps lead from a to each Map, at the least.
func nearest(a []pair, every []step) map[string]int {
	far := map[string]int{key(a): 0}
	for work := [][]pair{a}; len(work) > 0; work = work[1:] {
		for _, s := range every {
			next := perform(work[0], s)
			if _, known := far[key(next)]; !known {
				far[key(next)] = far[key(work[0])] + 1
				work = append(work, next)
			}
		}
	}
	return far
}

// P4.2 and P7: no smaller number of steps leads there.
func TestLeast(t *testing.T) {
	every := steps("a1 a2 -a b1 b2 -b c1 c2 -c")
	var formed [][]pair
	for _, l := range lists(pairs("a1 a2 b1 b2 c1 c2"), 3) {
		if slices.Equal(latest(l), l) {
			formed = append(formed, l)
		}
	}
	for _, a := range formed {
		far := nearest(a, every)
		for _, b := range formed {
			n, known := far[key(b)]
			if got := len(props.Turn(pmap(a), pmap(b))); !known || got != n {
				t.Errorf("Turn of %v to %v has %d steps, wanted %d", a, b, got, n)
			}
		}
	}
}

// P4.1: values of other types.
func TestOtherTypes(t *testing.T) {
	x := props.Of(props.Pair[string]{Name: "role", Value: "menu"}, props.Pair[string]{Name: "id"})
	if v, is := x.Get("id"); v != "" || !is {
		t.Errorf("Get of an empty value is %q %v", v, is)
	}
	if v, is := x.Get("rol"); v != "" || is {
		t.Errorf("Get of none is %q %v", v, is)
	}
	l := props.Turn(x, x.Set("role", "tab").Drop("id"))
	if !slices.Equal(l, []props.Step[string]{{Drop: true, Name: "id"}, {Name: "role", Value: "tab"}}) {
		t.Errorf("Turn of strings is %v", l)
	}
	type spot struct{ x, y int }
	y := props.Map[spot]{{Name: "b", Value: spot{1, 2}}, {Name: "a", Value: spot{3, 4}}}
	if z := y.Set("b", spot{1, 3}); y.Same(z) || !z.Set("b", spot{1, 2}).Same(y) || z[0].Name != "a" {
		t.Errorf("of structs: %v", z)
	}
	if f := props.Of(props.Pair[float64]{Name: "n", Value: math.NaN()}); f.Same(f) || len(props.Turn(f, f)) != 1 {
		t.Error("a value that is not equal to itself is not the same")
	}
}

// P1: what is in an interface may be beyond comparison. It counts as different
// from everything then, and no call panics.
func TestBeyondComparison(t *testing.T) {
	type held struct{ list any }
	for _, v := range []any{[]int{1}, map[string]int{}, func() {}, held{[]int{2}}, [1]any{[]int{}}} {
		m := props.Of(props.Pair[any]{Name: "b", Value: v}, props.Pair[any]{Name: "a", Value: 1})
		if m.Same(m) || m.Same(m.Set("b", 2)) || !m.Mine().Drop("b").Same(m.Drop("b")) {
			t.Errorf("Same of %T", v)
		}
		if got, is := m.Get("b"); got == nil || !is {
			t.Errorf("Get of %T is %v", v, is)
		}
		l := props.Turn(m, m)
		if len(l) != 1 || l[0].Name != "b" || l[0].Drop {
			t.Errorf("Turn of %T has %d steps", v, len(l))
		}
		if after := props.Apply(m.Drop("b"), l); len(after) != 2 || after[1].Value == nil {
			t.Errorf("Apply of %T has %d pairs", v, len(after))
		}
	}
	none := props.Map[any]{{Name: "a"}}
	if !none.Same(none) || none.Same(props.Map[any]{{Name: "a", Value: 0}}) || none.Same(props.Map[any]{{Name: "a", Value: []int{}}}) {
		t.Error("Same of nil")
	}
	errs := props.Map[error]{{Name: "a"}}
	if !errs.Same(errs) || len(props.Turn(errs, errs)) != 0 {
		t.Error("Same of errors that are nil")
	}
}

// Rule 5: nothing that is passed is changed, nor what lies behind it, and
// nothing that is returned lies where it lies.
func TestMemory(t *testing.T) {
	for _, l := range []string{"a1 b2 c3", "c1 a2 c2 b1", "t-x1 a1 b2", "x1", "a1"} {
		behind := append(pairs(l), pairs("spare8 room9")...)
		given := pmap(behind[:len(behind)-2])
		untouched := slices.Clone(behind)
		for i, got := range []pmap{
			props.Of(given...), given.Set("a", 5), given.Set("z", 5), given.Drop("a"), given.Drop("z"), given.Mine(),
			props.Apply(given, nil), props.Apply(given, steps("-a z5")),
		} {
			got = append(got[:cap(got)], pair{})
			for j := range got {
				got[j] = pair{Name: "written", Value: -1}
			}
			if !slices.Equal(behind, untouched) {
				t.Fatalf("call %d leaves %v of %v", i, behind, untouched)
			}
		}
		given.Get("b")
		given.Same(given)
		props.Turn(given, pairs("b1 d2"))
		props.Turn(pairs("b1 d2"), given)
		if !slices.Equal(behind, untouched) {
			t.Errorf("%v became %v", untouched, behind)
		}
	}
}

// Rule 5: steps that are passed are not changed either.
func TestStepsStay(t *testing.T) {
	behind := steps("b1 -c a2 spare3")
	props.Apply(pmap(pairs("c1 a1")), behind[:3])
	if !slices.Equal(behind, steps("b1 -c a2 spare3")) {
		t.Errorf("the steps are %v afterwards", behind)
	}
}

// P1: nothing is too long, and a Map that is nil is empty.
func TestAnyLength(t *testing.T) {
	var l []pair
	for i := range 50000 {
		l = append(l, pair{Name: strconv.Itoa(i * 7919 % 50000), Value: i})
	}
	m := props.Of(slices.Concat(l, l)...)
	if len(m) != len(l) {
		t.Fatalf("Of has %d pairs", len(m))
	}
	turned := props.Apply(m, props.Turn(m, m.Set("x", 1).Drop("0")))
	if v, is := turned.Get("x"); v != 1 || !is || len(turned) != len(l) {
		t.Errorf("a long Apply has %d pairs", len(turned))
	}
	none := pmap(nil)
	if _, is := none.Get(""); is || len(none.Drop("a")) != 0 || len(none.Mine()) != 0 || len(none.Set("", 0)) != 1 {
		t.Error("nothing is something")
	}
	if len(props.Turn(none, none)) != 0 || len(props.Apply(none, nil)) != 0 || len(props.Apply(none, steps("-a"))) != 0 {
		t.Error("steps of nothing")
	}
}
