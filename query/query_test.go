package query_test

import (
	"math"
	"math/rand"
	"slices"
	"strings"
	"testing"

	"scrim/api"
	"scrim/props"
	"scrim/query"
	"scrim/still"
)

// parsed is a selector that is written so.
func parsed(t *testing.T, s string) query.Selector {
	t.Helper()
	sel, at, e := query.Parse(s)
	if e != api.OK || at != 0 {
		t.Fatalf("%q is no selector: %d at %d", s, e, at)
	}
	return sel
}

// P28.1: the document's examples.
func TestExample(t *testing.T) {
	li := func(id int, class string, kids ...still.Tree) still.Tree {
		return still.Tree{ID: id, Kind: 2, Tag: "li", Classes: []string{class}, Kids: kids}
	}
	x := still.Tree{ID: 1, Kind: 2, Tag: "ul", Kids: []still.Tree{li(2, "on", li(3, "on")), li(4, "off"), li(5, "on")}}
	if got := query.All(x, parsed(t, "ul > li.on")); !slices.Equal(got, []int{2, 5}) {
		t.Errorf("ul > li.on matches %v", got)
	}
	if sel, at, e := query.Parse("a > > b"); len(sel) > 0 || at != 4 || e != api.ErrForm {
		t.Errorf("a > > b is %v, %d, %d", sel, at, e)
	}
}

// P28.1: what is parsed, and how it is written then.
func TestParse(t *testing.T) {
	for _, c := range []struct {
		s    string
		want query.Selector
		text string
	}{
		{"a", query.Selector{{Tag: "a"}}, "a"},
		{"*", query.Selector{{Tag: "*"}}, "*"},
		{".a", query.Selector{{Classes: []string{"a"}}}, ".a"},
		{"[a]", query.Selector{{Pairs: []query.Pair{{Name: "a", Any: true}}}}, "[a]"},
		{"[a=]", query.Selector{{Pairs: []query.Pair{{Name: "a"}}}}, "[a=]"},
		{"  *.a[b=c].d[e].d  ", query.Selector{{Tag: "*", Classes: []string{"a", "d", "d"}, Pairs: []query.Pair{{Name: "b", Value: "c"}, {Name: "e", Any: true}}}}, "*.a.d.d[b=c][e]"},
		{"a>b", query.Selector{{Tag: "a"}, {Tag: "b", Child: true}}, "a > b"},
		{"a >b> c   d", query.Selector{{Tag: "a"}, {Tag: "b", Child: true}, {Tag: "c", Child: true}, {Tag: "d"}}, "a > b > c d"},
		{"t-x.t-y[t-ghost=t-z]", query.Selector{{Tag: "t-x", Classes: []string{"t-y"}, Pairs: []query.Pair{{Name: "t-ghost", Value: "t-z"}}}}, "t-x.t-y[t-ghost=t-z]"},
		{"[a==.[>*!\"~&]", query.Selector{{Pairs: []query.Pair{{Name: "a", Value: "=.[>*!\"~&"}}}}, "[a==.[>*!\"~&]"},
		{strings.Repeat("a", 16) + "[b=" + strings.Repeat("c", 32) + "]", query.Selector{{Tag: strings.Repeat("a", 16), Pairs: []query.Pair{{Name: "b", Value: strings.Repeat("c", 32)}}}}, strings.Repeat("a", 16) + "[b=" + strings.Repeat("c", 32) + "]"},
	} {
		if got := parsed(t, c.s); !same(got, c.want) || got.Text() != c.text {
			t.Errorf("%q is %+v, and its Text %q", c.s, got, got.Text())
		}
	}
}

// P28.1: where a text is wrong.
func TestErrors(t *testing.T) {
	for s, want := range map[string]int{
		"": 0, "   ": 3, ">": 0, " > a": 1, "a >": 3, "a > ": 4, "a>>b": 2, "a > > b": 4, "a >  ": 5,
		"A": 0, "a b C": 4, "1": 0, "a*": 0, "*a": 1, "**": 1, "* *a": 3, "a#b": 0, "\xff": 0, "a\t": 0, "a\tb": 0, strings.Repeat("a", 17): 0, "-": 0,
		".": 1, "a.": 2, "a.B": 2, "a..b": 2, ".1": 1, ". a": 1, "." + strings.Repeat("a", 17): 1, ".*": 1,
		"[": 1, "[]": 1, "[=a]": 1, "[ a]": 1, "[A]": 1, "[a": 2, "[a ]": 2, "[a b]": 2, "[a.b]": 2, "[a>": 2, "[a[b]": 2, "a [": 3, "[*]": 1,
		"[a=": 3, "[a=b": 4, "[a=b c]": 3, "[a=b c": 3, "[a='b']": 3, "[a=(]": 3, "[a=\x7f]": 3, "[a=" + strings.Repeat("b", 33) + "]": 3, "[a=b.C [d]": 3,
		"a]": 1, "]": 0, "=": 0, "a=b": 1, "a ]": 2, "a =": 2, "[a]b": 3, "[a]*": 3, "[a]]": 3, "a.b]": 3, "a[b]=": 4,
		strings.Repeat("a ", 199) + "a>": 400,
	} {
		if sel, at, e := query.Parse(s); e != api.ErrForm || at != want || len(sel) > 0 {
			t.Errorf("%q is %v, %d at %d, wanted %d", s, sel, e, at, want)
		}
	}
}

// P28.1: a text has at most 400 bytes, whatever it says.
func TestBig(t *testing.T) {
	for _, s := range []string{strings.Repeat("a ", 200), strings.Repeat(" ", 399) + "a", "a" + strings.Repeat(".b", 199) + " "} {
		if sel, _, e := query.Parse(s); e != api.OK || len(sel) == 0 {
			t.Errorf("%d bytes are %d", len(s), e)
		}
		for _, more := range []string{" ", "]", strings.Repeat(" ", 1<<18)} {
			if sel, at, e := query.Parse(s + more); e != api.ErrBig || at != 0 || len(sel) > 0 {
				t.Errorf("%d bytes are %v, %d at %d", len(s+more), sel, e, at)
			}
		}
	}
}

// holds fails unless Parse is as the model says, and P28.2 holds.
func holds(t *testing.T, s string) bool {
	t.Helper()
	got, at, e := query.Parse(s)
	want, wantAt, wantE := modelParse(s)
	if !same(got, want) || at != wantAt || e != wantE {
		t.Fatalf("%q is %+v, %d at %d, wanted %+v, %d at %d", s, got, e, at, want, wantE, wantAt)
	}
	if e != api.OK {
		return false
	}
	text := got.Text()
	if text != modelText(want) {
		t.Fatalf("the Text of %q is %q, wanted %q", s, text, modelText(want))
	}
	if again, _, e := query.Parse(text); len(text) <= 400 && (e != api.OK || !same(again, got)) {
		t.Fatalf("%q is written %q, which is %+v, %d", s, text, again, e)
	}
	return true
}

// P28.1 and P28.2: all short texts.
func TestShortTexts(t *testing.T) {
	good := 0
	var extend func(s string, more int)
	extend = func(s string, more int) {
		if holds(t, s) {
			good++
		}
		if more > 0 {
			for _, b := range " >.[]=*aB" {
				extend(s+string(b), more-1)
			}
		}
	}
	extend("", 6)
	if good < 1000 {
		t.Errorf("only %d of them are selectors", good)
	}
}

// P28.1 and P28.2: longer texts, some of them spoilt.
func TestLongTexts(t *testing.T) {
	r, good := rand.New(rand.NewSource(28)), 0
	for range 20000 {
		s := choose(r, "", " ", "  ")
		for range r.Intn(8) {
			s += choose(r, "a", "b-1", "*", "", ".on", ".t-x", "[k]", "[k=v]", "[k=]", "[k=a=.>*]") + choose(r, "", ".x", "[l]", "[l=2]") + choose(r, " ", " > ", ">", "> ", "   ")
		}
		s += choose(r, "a", ".x", "", "[k]")
		if r.Intn(3) == 0 && s != "" {
			at := r.Intn(len(s))
			s = s[:at] + string(rune(r.Intn(140))) + s[at+r.Intn(2):]
		}
		if holds(t, s) {
			good++
		}
	}
	for range 3000 {
		b := make([]byte, r.Intn(410))
		for i := range b {
			b[i] = "aaa >."[r.Intn(6)]
		}
		if holds(t, string(b)) {
			good++
		}
	}
	if good < 1000 {
		t.Errorf("only %d of them are selectors", good)
	}
}

// P28.1: Text of any selector, whether it can be parsed or not.
func TestText(t *testing.T) {
	for want, s := range map[string]query.Selector{
		"": nil, "*": {{}}, "a * > *.b": {{Tag: "a", Child: true}, {}, {Tag: "*", Classes: []string{"b"}, Child: true}},
		"A b. ?..[=][x][ = ]": {{Tag: "A b. ?", Classes: []string{"", ""}, Pairs: []query.Pair{{}, {Name: "x", Value: "y", Any: true}, {Name: " ", Value: " "}}}},
		"> > >":               {{Tag: ">"}, {Tag: ">", Child: true}},
	} {
		if got := s.Text(); got != want {
			t.Errorf("Text of %+v is %q, wanted %q", s, got, want)
		}
	}
	r := rand.New(rand.NewSource(281))
	for range 5000 {
		if s := someSelector(r, 4); s.Text() != modelText(s) {
			t.Fatalf("Text of %+v is %q, wanted %q", s, s.Text(), modelText(s))
		}
	}
}

// P28.1: nothing is above the tree that is passed, Texts match nothing, and attributes
// may have any value or a given one.
func TestAll(t *testing.T) {
	x := still.Tree{ID: 7, Kind: 2, Tag: "ul", Attrs: attrs("k", "1"), Kids: []still.Tree{
		{ID: 3, Kind: 1, Tag: "li", Text: "x", Kids: []still.Tree{{ID: 9, Kind: 2, Tag: "li"}}},
		{ID: 5, Kind: 2, Tag: "li", Classes: []string{"a", "b"}, Attrs: attrs("k", "", "l", "2"), Kids: []still.Tree{{ID: 4, Kind: 2, Tag: "ul"}, {ID: 5, Kind: 2, Tag: "li"}}},
		{ID: 6, Kind: 3, Tag: "li"},
		{ID: -1, Kind: 2, Tag: "li", Classes: []string{"b", "a", "b"}},
	}}
	for s, want := range map[string][]int{
		"*": {7, 9, 5, 4, 5, -1}, "ul": {7, 4}, "li": {9, 5, 5, -1}, "ul ul": {4}, "ul > ul": nil, "* > ul": {4}, "li > li": {5}, "ul li": {9, 5, 5, -1}, "ul > li": {5, -1},
		"ul > * > li": {5}, ".a": {5, -1}, ".b.a": {5, -1}, ".b.b": {5, -1}, ".c": nil, "[k]": {7, 5}, "[k=]": {5}, "[k=1]": {7}, "[k=2]": nil, "[k][l]": {5}, "[l=2][k]": {5},
		"[k=1] [k]": {5}, "[k] [k=1]": nil, "ul li > ul": {4}, "li.a > *": {4, 5}, "p": nil, "* * * *": nil, "* * *": {4, 5},
	} {
		if got := query.All(x, parsed(t, s)); !slices.Equal(got, want) {
			t.Errorf("%s matches %v, wanted %v", s, got, want)
		}
	}
	if got := query.All(x, nil); len(got) > 0 {
		t.Errorf("no parts match %v", got)
	}
	if got := query.All(x, query.Selector{{Tag: "ul", Child: true}}); !slices.Equal(got, []int{7, 4}) {
		t.Errorf("a first part that is to follow a > matches %v", got)
	}
	if got := query.All(x, query.Selector{{Pairs: []query.Pair{{Name: "k", Value: "9", Any: true}}}}); !slices.Equal(got, []int{7, 5}) {
		t.Errorf("any value matches %v", got)
	}
	loose := still.Tree{ID: 1, Kind: 2, Attrs: props.Map[string]{{Name: "b", Value: "1"}, {Name: "a"}, {Name: "b", Value: "2"}}}
	if got := query.All(loose, query.Selector{{Pairs: []query.Pair{{Name: "b", Value: "2"}, {Name: "a", Any: true}}}}); !slices.Equal(got, []int{1}) {
		t.Errorf("attributes in another order match %v", got)
	}
	if got := query.All(still.Tree{}, query.Selector{{}}); len(got) > 0 {
		t.Errorf("a zero Tree matches as %v", got)
	}
}

// P28.1: any trees and selectors.
func TestAllAgainstModel(t *testing.T) {
	r, found := rand.New(rand.NewSource(282)), 0
	for range 20000 {
		next := 0
		x, s := someTree(r, 5, &next), someSelector(r, 4)
		got, want := query.All(x, s), modelAll([]still.Tree{x}, s)
		if !slices.Equal(got, want) {
			t.Fatalf("%s matches %v in %s, wanted %v", s.Text(), got, x.Show(true), want)
		}
		found += len(got)
	}
	if found < 10000 {
		t.Errorf("only %d nodes matched", found)
	}
}

// P28.3: after a > there are no more nodes than after spaces.
func TestChild(t *testing.T) {
	r, fewer, some := rand.New(rand.NewSource(283)), 0, 0
	for range 10000 {
		next := 0
		x, s := someTree(r, 5, &next), someSelector(r, 3)
		last := query.Part{Tag: choose(r, "a", "*")}
		below := query.All(x, append(slices.Clone(s), last))
		last.Child = true
		kids := query.All(x, append(slices.Clone(s), last))
		for _, id := range kids {
			if !slices.Contains(below, id) {
				t.Fatalf("%d matches after a > only, with %s in %s", id, s.Text(), x.Show(true))
			}
		}
		some += len(kids)
		if len(kids) < len(below) {
			fewer++
		}
	}
	if some < 1000 || fewer < 500 {
		t.Errorf("%d kids matched, and %d times there were fewer", some, fewer)
	}
}

// Rule 5: nothing that is passed is changed.
func TestMemory(t *testing.T) {
	r := rand.New(rand.NewSource(284))
	for range 500 {
		next := 0
		x, s := someTree(r, 4, &next), someSelector(r, 4)
		shown, text := x.Show(true), s.Text()
		all := query.All(x, s)
		for i := range all {
			all[i] = math.MinInt
		}
		if x.Show(true) != shown || s.Text() != text {
			t.Fatalf("%s in %s has become %s in %s", text, shown, s.Text(), x.Show(true))
		}
	}
	a, b := parsed(t, "a.b.c[d][e=f]"), parsed(t, "a.b.c[d][e=f]")
	a[0].Classes[0], a[0].Pairs[0].Name = "z", "z"
	if b.Text() != "a.b.c[d][e=f]" {
		t.Errorf("two results share memory: %s", b.Text())
	}
}

// P1: deep and wide trees, and selectors of many parts.
func TestLong(t *testing.T) {
	n := still.Tree{ID: 1 << 12, Kind: 2, Tag: "b"}
	for i := 1<<12 - 1; i > 0; i-- {
		n = still.Tree{ID: i, Kind: 2, Tag: "a", Kids: []still.Tree{n}}
	}
	s := parsed(t, strings.Repeat("a ", 199)+"b")
	if got := query.All(n, s); !slices.Equal(got, []int{1 << 12}) {
		t.Errorf("deep: %v", got)
	}
	if got := query.All(n, append(query.Selector{{Tag: "b"}}, s...)); len(got) > 0 {
		t.Errorf("deep, below what is not there: %v", got)
	}
	for i := 1 << 12; i < 1<<16; i++ {
		n = still.Tree{ID: -i, Kind: 2, Tag: "c", Kids: []still.Tree{n}}
	}
	if got := query.All(n, parsed(t, "c > a")); !slices.Equal(got, []int{1}) {
		t.Errorf("deeper: %v", got)
	}
	wide := still.Tree{Kind: 2, Kids: slices.Repeat([]still.Tree{{ID: 1, Kind: 2, Tag: "a"}}, 1<<17)}
	if got := query.All(wide, parsed(t, "* > a")); len(got) != 1<<17 {
		t.Errorf("wide: %d", len(got))
	}
	if got := query.All(still.Tree{Kind: 2}, make(query.Selector, 1<<17)); len(got) > 0 {
		t.Errorf("many parts: %v", got)
	}
	if got := make(query.Selector, 1<<17).Text(); got != strings.Repeat("* ", 1<<17-1)+"*" {
		t.Errorf("many parts are written with %d bytes", len(got))
	}
}
