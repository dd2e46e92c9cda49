package patch_test

import (
	"math"
	"math/rand"
	"slices"
	"strings"
	"testing"

	"scrim/api"
	"scrim/arena"
	"scrim/dress"
	"scrim/patch"
	"scrim/props"
	"scrim/trail"
)

// noted holds what was recorded since the last time against what is wanted.
func noted(t *testing.T, l *trail.Log, want ...trail.Op) {
	t.Helper()
	if got := l.Ops(); !slices.Equal(got, want) {
		t.Errorf("the Ops are %+v, wanted %+v", got, want)
	}
	l.Clear()
}

func wants(t *testing.T, what string, got, want api.Errno) {
	t.Helper()
	if got != want {
		t.Errorf("%s is %d, wanted %d", what, got, want)
	}
}

// some returns a log over p 1 below the root, with x 2 below it, and a loose li 3;
// p has two classes, attributes and styles.
func some() *trail.Log {
	d := arena.New(9)
	d.Element("p")
	d.Text("x")
	d.Element("li")
	d.Insert(0, 0, 1)
	d.Insert(1, 0, 2)
	d.AddClass(1, "on")
	d.AddClass(1, "big")
	d.SetAttr(1, "a", "1")
	d.SetAttr(1, "b", "2")
	d.SetStyle(1, "h", 3)
	d.SetStyle(1, "w", 4)
	return trail.On(d)
}

func attrs(words ...string) props.Map[string] {
	var m props.Map[string]
	for i := 0; i < len(words); i += 2 {
		m = append(m, props.Pair[string]{Name: words[i], Value: words[i+1]})
	}
	return m
}

func style(name string, n int) props.Pair[int] { return props.Pair[int]{Name: name, Value: n} }

// P22.1: Drops and Adds of classes, then Drops and Sets of attributes, then of styles.
func TestDress(t *testing.T) {
	l := some()
	wants(t, "Dress", patch.Dress(l, 1, dress.Own{
		Classes: []string{"big", "on", "big"},
		Attrs:   attrs("c", "3", "b", "9", "c", "4", "b", "8"),
		Styles:  props.Map[int]{style("w", 4), style("z", 0), style("b", -1)},
	}), api.OK)
	noted(t, l,
		trail.Op{Kind: trail.NoClass, A: 1, Name: "on"}, trail.Op{Kind: trail.Class, A: 1, Name: "on"},
		trail.Op{Kind: trail.NoAttr, A: 1, Name: "a"}, trail.Op{Kind: trail.Attr, A: 1, Name: "b", Value: "8"}, trail.Op{Kind: trail.Attr, A: 1, Name: "c", Value: "4"},
		trail.Op{Kind: trail.NoStyle, A: 1, Name: "h"}, trail.Op{Kind: trail.Style, A: 1, Name: "b", C: -1}, trail.Op{Kind: trail.Style, A: 1, Name: "z"},
	)
	wants(t, "Dress in nothing", patch.Dress(l, 1, dress.Own{}), api.OK)
	n, _ := l.Get(1)
	if len(n.Classes)+len(n.Attrs)+len(n.Styles) != 0 || n.Tag != "p" || !slices.Equal(n.Kids, []int{2}) {
		t.Errorf("in nothing it is %+v", n)
	}
	l.Clear()
	wants(t, "Dress of a loose one", patch.Dress(l, 3, dress.Own{Classes: []string{"t-wait"}}), api.OK)
	noted(t, l, trail.Op{Kind: trail.Class, A: 3, Name: "t-wait"})
}

// P22.1: the marks of a look come and go with nothing else.
func TestDressMarks(t *testing.T) {
	l := some()
	n, _ := l.Get(1)
	plain := dress.Own{Classes: n.Classes, Attrs: n.Attrs, Styles: n.Styles}
	wants(t, "LeaveTo", patch.Dress(l, 1, dress.Look{Kind: dress.LeaveTo}.Put(plain)), api.OK)
	noted(t, l, trail.Op{Kind: trail.Class, A: 1, Name: "t-leave-active"}, trail.Op{Kind: trail.Class, A: 1, Name: "t-leave-to"}, trail.Op{Kind: trail.Attr, A: 1, Name: "t-ghost"})
	wants(t, "Away", patch.Dress(l, 1, dress.Look{Move: dress.Away, DX: -5}.Put(plain)), api.OK)
	noted(t, l,
		trail.Op{Kind: trail.NoClass, A: 1, Name: "t-leave-active"}, trail.Op{Kind: trail.NoClass, A: 1, Name: "t-leave-to"}, trail.Op{Kind: trail.Class, A: 1, Name: "t-move"},
		trail.Op{Kind: trail.NoAttr, A: 1, Name: "t-ghost"},
		trail.Op{Kind: trail.Style, A: 1, Name: "t-dx", C: -5}, trail.Op{Kind: trail.Style, A: 1, Name: "t-dy"},
	)
}

// P22.1: the errors, the first one of several, after which nothing is done.
func TestDressErrors(t *testing.T) {
	long := "abcdefghijklmnop"
	for want, owns := range map[api.Errno][]dress.Own{
		api.OK: {
			{}, {Classes: []string{long}}, {Attrs: attrs(long, "\xff'()")}, {Styles: props.Of(style("t-x", 1))},
		},
		api.ErrForm: {
			{Classes: []string{"a", "A", "a"}}, {Classes: []string{""}}, {Classes: []string{long + "q"}}, {Classes: []string{"1a"}}, {Classes: []string{"a b"}},
			{Attrs: attrs("a", "1", "", "2")}, {Attrs: attrs("-a", "1", "b", "2")}, {Attrs: attrs("é", "")},
			{Styles: props.Of(style("W", 1))}, {Styles: props.Map[int]{style("a", 1), style("w_", 2), style("a", 3)}},
			{Classes: []string{"a"}, Attrs: attrs("b", ""), Styles: props.Of(style(long+"q", 4))},
		},
	} {
		for _, o := range owns {
			l := some()
			before := all(l.Dom)
			wants(t, "Dress of none", patch.Dress(l, 9, o), api.ErrNode)
			wants(t, "Dress of none", patch.Dress(l, -1, o), api.ErrNode)
			wants(t, "Dress of the root", patch.Dress(l, 0, o), api.ErrArg)
			wants(t, "Dress of a Text", patch.Dress(l, 2, o), api.ErrKind)
			noted(t, l)
			wants(t, "Dress", patch.Dress(l, 1, o), want)
			if want != api.OK {
				noted(t, l)
				if all(l.Dom) != before {
					t.Errorf("after Dress in %v: %s", o, all(l.Dom))
				}
			}
		}
	}
}

// P22.1: a style is set as it is passed, and limited by the node. Its required number
// is then one that the node cannot have, so that Turn sets it each time.
func TestDressBeyond32Bits(t *testing.T) {
	l := some()
	o := dress.Own{Styles: props.Of(style("h", math.MinInt), style("w", 1<<40))}
	patch.Dress(l, 1, dress.Own{})
	l.Clear()
	for range 2 {
		wants(t, "Dress", patch.Dress(l, 1, o), api.OK)
		noted(t, l, trail.Op{Kind: trail.Style, A: 1, Name: "h", C: math.MinInt}, trail.Op{Kind: trail.Style, A: 1, Name: "w", C: 1 << 40})
	}
	if n, _ := l.Get(1); !n.Styles.Same(props.Of(style("h", math.MinInt32), style("w", math.MaxInt32))) {
		t.Errorf("the styles are %v", n.Styles)
	}
}

// P22.1, P22.2 and P1: any nodes in anything; the second time nothing is recorded.
func TestDressAgainstModel(t *testing.T) {
	r, errors := rand.New(rand.NewSource(22)), map[api.Errno]int{}
	for range 3000 {
		d := garden(r)
		l, should := trail.On(d), d.Clone()
		for range 4 {
			id, o := r.Intn(d.Next()+2)-1, own(r)
			ops, want := dressOps(should, id, o)
			if got := patch.Dress(l, id, o); got != want || !slices.Equal(l.Ops(), ops) {
				t.Fatalf("Dress of %d in %v is %d with %+v, wanted %d with %+v", id, o, got, l.Ops(), want, ops)
			}
			trail.Replay(should, ops)
			if all(d) != all(should) {
				t.Fatalf("after Dress of %d in %v: %s, wanted %s", id, o, all(d), all(should))
			}
			l.Clear()
			if again := patch.Dress(l, id, o); again != want || len(l.Ops()) > 0 {
				t.Fatalf("Dress of %d in %v, again, is %d with %+v", id, o, again, l.Ops())
			}
			errors[want]++
		}
	}
	for _, e := range []api.Errno{api.OK, api.ErrNode, api.ErrArg, api.ErrKind, api.ErrForm} {
		if errors[e] < 200 {
			t.Errorf("the error %d came %d times only", e, errors[e])
		}
	}
}

// P22.1: after Dress a node has exactly what is required.
func TestDressed(t *testing.T) {
	r := rand.New(rand.NewSource(23))
	l := some()
	for range 3000 {
		o := own(r)
		if patch.Dress(l, 1, o) != api.OK {
			continue
		}
		n, _ := l.Get(1)
		if !slices.Equal(n.Classes, once(o.Classes)) || !n.Attrs.Same(o.Attrs) || !n.Styles.Same(o.Styles) {
			t.Fatalf("Dress in %v has made it %+v", o, n)
		}
	}
}

// lists returns every list of different names out of three.
func lists() [][]string {
	found := [][]string{nil}
	for i := 0; i < len(found); i++ {
		for _, c := range strings.Fields("a b c") {
			if !slices.Contains(found[i], c) {
				found = append(found, append(slices.Clone(found[i]), c))
			}
		}
	}
	return found
}

// after performs Drops and then Adds, which are the bits and the elements, on classes.
func after(a []string, drops int, adds []string) []string {
	var list []string
	for i, c := range a {
		if drops>>i&1 == 0 {
			list = append(list, c)
		}
	}
	return append(list, adds...)
}

// least returns how many Drops and Adds lead from one list to another at least, by
// trying all of them.
func least(a, b []string) int {
	most := math.MaxInt
	for drops := range 1 << len(a) {
		for _, adds := range lists() {
			if n := len(a) - len(after(a, drops, nil)) + len(adds); slices.Equal(after(a, drops, adds), b) {
				most = min(most, n)
			}
		}
	}
	return most
}

// P22.3 and P7: no smaller number of Drops and Adds leads from any classes to others.
func TestFewestClasses(t *testing.T) {
	for _, a := range lists() {
		for _, b := range lists() {
			l := some()
			patch.Dress(l, 1, dress.Own{Classes: a})
			l.Clear()
			patch.Dress(l, 1, dress.Own{Classes: b})
			if got, want := len(l.Ops()), least(a, b); got != want {
				t.Errorf("%d Ops from %v to %v, wanted %d", got, a, b, want)
			}
		}
	}
}

// P22.3 and P7: each attribute and style that differs takes one step, no other one any.
func TestFewestPairs(t *testing.T) {
	pairs := func(n int) dress.Own {
		var o dress.Own
		for _, name := range []string{"c", "a", "b"} {
			if n%3 > 0 {
				o.Attrs = append(o.Attrs, props.Pair[string]{Name: name, Value: strings.Repeat("x", n%3)})
				o.Styles = append(o.Styles, style(name, n%3))
			}
			n /= 3
		}
		return o
	}
	differ := func(a, b int) int {
		count := 0
		for ; a+b > 0; a, b = a/3, b/3 {
			if a%3 != b%3 {
				count++
			}
		}
		return count
	}
	for a := range 27 {
		for b := range 27 {
			l := some()
			patch.Dress(l, 1, pairs(a))
			l.Clear()
			patch.Dress(l, 1, pairs(b))
			if got, want := len(l.Ops()), 2*differ(a, b); got != want {
				t.Errorf("%d Ops from %v to %v, wanted %d", got, pairs(a), pairs(b), want)
			}
		}
	}
}

// Rule 5: nothing that is passed changes, its spare capacity included, and no node
// keeps it.
func TestDressMemory(t *testing.T) {
	r := rand.New(rand.NewSource(24))
	for range 1000 {
		l, whole := some(), own(r)
		part := dress.Own{
			Classes: whole.Classes[:r.Intn(len(whole.Classes)+1)],
			Attrs:   whole.Attrs[:r.Intn(len(whole.Attrs)+1)],
			Styles:  whole.Styles[:r.Intn(len(whole.Styles)+1)],
		}
		kept := dress.Own{Classes: slices.Clone(whole.Classes), Attrs: slices.Clone(whole.Attrs), Styles: slices.Clone(whole.Styles)}
		patch.Dress(l, 1, part)
		if !slices.Equal(whole.Classes, kept.Classes) || !slices.Equal(whole.Attrs, kept.Attrs) || !slices.Equal(whole.Styles, kept.Styles) {
			t.Fatalf("%v has become %v", kept, whole)
		}
		before := all(l.Dom)
		for i := range whole.Classes {
			whole.Classes[i] = "spoilt"
		}
		for i := range whole.Attrs {
			whole.Attrs[i].Value = "spoilt"
		}
		for i := range whole.Styles {
			whole.Styles[i].Value = 77
		}
		if all(l.Dom) != before {
			t.Fatalf("%s has become %s", before, all(l.Dom))
		}
	}
}
