package line_test

import (
	"math"
	"math/rand"
	"slices"
	"strings"
	"testing"

	"scrim/api"
	"scrim/line"
	"scrim/notation"
	"scrim/props"
	"scrim/query"
	"scrim/view"
)

// all are the words, as the chapter lists them, with how many numbers each of them has.
var all = map[string]int{"mount": 0, "render": 0, "tick": 1, "end": 1, "cancel": 1, "look": 1, "engine": 5, "find": 0, "unmount": 0, "frame": 0, "show": 0, "erased": 0, "view": 0, "rects": 0, "hooks": 0, "pending": 0, "clock": 0, "audit": 0, "rest": 0}

// holds fails unless a line is parsed as the patterns say (P30.1) and, if it is a step,
// is parsed from its Text again (P30.2). It reports whether it is one.
func holds(t *testing.T, s string) bool {
	t.Helper()
	x, e := line.Parse(s)
	want, f := model(s)
	if e != f || !same(x, want) {
		t.Fatalf("%q is %+v and %d, wanted %+v and %d", s, x, e, want, f)
	}
	if e != api.OK {
		return false
	}
	text := x.Text()
	if len(x.Sel.Text()) > 400 || len(notation.Print(x.View)) > 20000 {
		return true
	}
	y, e := line.Parse(text)
	if e != api.OK || !same(x, y) || y.Text() != text {
		t.Fatalf("the Text of %q is %q, which is %+v and %d", s, text, y, e)
	}
	return true
}

// P30.1: the chapter's examples.
func TestExamples(t *testing.T) {
	if x, e := line.Parse("tick 5"); e != api.OK || !same(x, line.Step{Word: "tick", N: []int{5}}) {
		t.Errorf("tick 5: %+v %d", x, e)
	}
	if x, e := line.Parse("tick"); e != api.ErrForm || !same(x, line.Step{}) {
		t.Errorf("tick: %+v %d", x, e)
	}
	want := line.Step{Word: "find", Sel: query.Selector{{Tag: "ul"}, {Tag: "li", Child: true}}}
	if x, e := line.Parse("find ul > li"); e != api.OK || !same(x, want) {
		t.Errorf("find ul > li: %+v %d", x, e)
	}
}

// P30.1: every word with its arguments, and how the step is written.
func TestSteps(t *testing.T) {
	p := view.Node{Kind: view.Element, Tag: "p", Classes: []string{"on", "on"}, Attrs: props.Map[string]{{Name: "a", Value: "b"}}, Kids: []view.Node{{Kind: view.Text, Text: " x "}, {Kind: view.Text}}}
	steps := map[string]line.Step{
		"mount (p .on .on @a=b ' x ' '')":  {Word: "mount", View: p},
		"render (p .on .on @a=b ' x ' '')": {Word: "render", View: p},
		"mount ''":                         {Word: "mount", View: view.Node{Kind: view.Text}},
		"render (ul !group)":               {Word: "render", View: view.Node{Kind: view.Group, Tag: "ul"}},
		"tick 0":                           {Word: "tick", N: []int{0}},
		"end 2147483647":                   {Word: "end", N: []int{math.MaxInt32}},
		"cancel 7":                         {Word: "cancel", N: []int{7}},
		"look 10":                          {Word: "look", N: []int{10}},
		"engine 0 1 2 3 2147483647":        {Word: "engine", N: []int{0, 1, 2, 3, math.MaxInt32}},
		"find *":                           {Word: "find", Sel: query.Selector{{Tag: "*"}}},
		"find a.b[c] [d=e] > *":            {Word: "find", Sel: query.Selector{{Tag: "a", Classes: []string{"b"}, Pairs: []query.Pair{{Name: "c", Any: true}}}, {Pairs: []query.Pair{{Name: "d", Value: "e"}}}, {Tag: "*", Child: true}}},
	}
	for _, word := range strings.Fields("unmount frame show erased view rects hooks pending clock audit rest") {
		steps[word] = line.Step{Word: word}
	}
	words := map[string]int{}
	for s, want := range steps {
		if x, e := line.Parse(s); e != api.OK || !same(x, want) || x.Text() != s || want.Text() != s {
			t.Errorf("%s is %+v and %d, and written as %s and %s", s, x, e, x.Text(), want.Text())
		}
		words[want.Word]++
	}
	if len(words) != len(all) {
		t.Errorf("only %v have been parsed", words)
	}
}

// P30.1: any number of spaces before, between and after, and nothing else.
func TestSpaces(t *testing.T) {
	for s, want := range map[string]string{
		"   tick    5   ": "tick 5", " frame ": "frame", "  engine 1  2   3 4 5": "engine 1 2 3 4 5", "   mount   ( p(b)'x')  ": "mount (p (b) 'x')", "find   a>b   ": "find a > b", "mount 'x'": "mount 'x'", "find  *": "find *",
	} {
		if x, e := line.Parse(s); e != api.OK || x.Text() != want {
			t.Errorf("%q is %q and %d, wanted %q", s, x.Text(), e, want)
		}
	}
	for _, s := range []string{"", " ", "mount(p)", "mount'x'", "find*", "find.a", "find[a]", "tick5", "tick\t5", "\tframe", "frame\n", "frame\u00a0", "tick 5\n", "engine 1 2 3 45", "engine 1,2,3,4,5", "fra me", "tick 1 0", "mount\n(p)", "mount\u00a0(p)"} {
		if x, e := line.Parse(s); e != api.ErrForm || !same(x, line.Step{}) {
			t.Errorf("%q is %+v and %d", s, x, e)
		}
	}
}

// P30.1: which error, with wrong words and arguments.
func TestErrors(t *testing.T) {
	deep := strings.Repeat("(p ", 41)
	for e, lines := range map[api.Errno][]string{
		api.ErrForm: {
			"x", "Tick 5", "tick", "tick x", "tick -1", "tick -0", "tick 01", "tick +1", "tick 1.0", "tick 2147483648", "tick 99999999999", "tick 1 1", "tick 1 x", "tick (p)", "ticks 1",
			"end", "end -1", "end 1 2", "cancel", "cancel x", "look", "look 0 0", "engine", "engine 1 2 3 4", "engine 1 2 3 4 5 6", "engine 1 2 3 4 -5", "engine 1 2 x 4 5", "engine -1 2 3 4 5",
			"frame 1", "frame x", "unmount (p)", "show 0", "erased 0", "view (p)", "rects 1", "hooks a", "pending 0", "clock 0", "audit 1", "rest 4", "rest rest", "show show",
			"mount", "mount ", "mount   ", "render", "render p", "mount (p", "mount (p))", "mount (p) (p)", "mount (p) x", "mount 'x", "mount 5", "mount (p #a #b)", "mount (p) '",
			"find", "find ", "find  ", "find >", "find a >", "find a > > b", "find (p)", "find a,b", "find 5",
		},
		api.ErrDepth: {"mount " + deep, "render  " + deep + strings.Repeat(")", 41)},
		api.ErrBig:   {"find " + strings.Repeat("a", 401), "mount " + strings.Repeat("(", 20001), strings.Repeat("x", 20101)},
	} {
		for _, s := range lines {
			if x, f := line.Parse(s); f != e || !same(x, line.Step{}) {
				t.Errorf("%q is %+v and %d, wanted %d", s, x, f, e)
			}
		}
	}
}

// P30.1: how long a line, a view and a selector may be. The spaces around a view and a
// selector count, but for the one that follows the word.
func TestSizes(t *testing.T) {
	spaces := func(n int) string { return strings.Repeat(" ", n) }
	for s, e := range map[string]api.Errno{
		"frame" + spaces(20095):                      api.OK,
		"frame" + spaces(20096):                      api.ErrBig,
		spaces(20095) + "frame":                      api.OK,
		spaces(20096) + "frame":                      api.ErrBig,
		"tick" + spaces(20095) + "5":                 api.OK,
		"tick" + spaces(20096) + "5":                 api.ErrBig,
		spaces(20100):                                api.ErrForm,
		spaces(20101):                                api.ErrBig,
		strings.Repeat("x", 20100):                   api.ErrForm,
		strings.Repeat("x", 20101):                   api.ErrBig,
		"tick " + strings.Repeat("x", 20095):         api.ErrForm,
		"tick " + strings.Repeat("x", 20096):         api.ErrBig,
		"mount " + spaces(19997) + "(p)":             api.OK,
		"mount " + spaces(19998) + "(p)":             api.ErrBig,
		"mount (p)" + spaces(19997):                  api.OK,
		"mount (p)" + spaces(19998):                  api.ErrBig,
		spaces(90) + "mount " + spaces(19997) + "''": api.OK,
		spaces(94) + "mount (p" + spaces(19998):      api.ErrForm,
		spaces(95) + "mount (p" + spaces(19998):      api.ErrBig,
		"mount " + spaces(20000):                     api.ErrForm,
		"mount " + spaces(20001):                     api.ErrBig,
		"find " + spaces(399) + "a":                  api.OK,
		"find " + spaces(400) + "a":                  api.ErrBig,
		"find a" + spaces(399):                       api.OK,
		"find a" + spaces(400):                       api.ErrBig,
		spaces(19700) + "find " + spaces(394) + "a":  api.OK,
		spaces(19701) + "find " + spaces(394) + "a":  api.ErrBig,
		"find >" + spaces(400):                       api.ErrBig,
		"find " + spaces(400):                        api.ErrForm,
		"find " + spaces(401):                        api.ErrBig,
	} {
		x, f := line.Parse(s)
		if f != e || (e != api.OK && !same(x, line.Step{})) {
			t.Errorf("%d bytes, %s, are %d, wanted %d", len(s), strings.Join(strings.Fields(s), " "), f, e)
		}
	}
}

// P30.1: all rows of a few tokens, with and without spaces between them.
func TestShortLines(t *testing.T) {
	good := 0
	var extend func(s string, more int)
	extend = func(s string, more int) {
		if holds(t, s) {
			good++
		}
		if more > 0 {
			for _, token := range []string{" ", "tick", "engine", "frame", "mount", "find", "5", "0", "-", "(p)", "'x'", "a", ">"} {
				extend(s+token, more-1)
			}
		}
	}
	extend("", 5)
	for _, word := range []string{"tick ", "engine 1 2 3 4 ", "mount ", "find ", "frame "} {
		extend(word, 4)
	}
	if good < 2000 {
		t.Errorf("only %d of them are steps", good)
	}
}

// P30.1 and P30.2: longer lines, some of them spoilt.
func TestLongLines(t *testing.T) {
	r, good := rand.New(rand.NewSource(30)), map[string]int{}
	for range 60000 {
		s := written(r)
		if r.Intn(5) == 0 && s != "" {
			at := r.Intn(len(s))
			s = s[:at] + choose(r, string(rune(r.Intn(140))), "", " ", "-", "\xff") + s[at+r.Intn(2):]
		}
		if holds(t, s) {
			good[strings.Fields(s)[0]]++
		}
	}
	for word := range all {
		if good[word] < 500 {
			t.Errorf("the word %s came %d times only", word, good[word])
		}
	}
}

// P30.1 and P30.2: views and selectors that are as long as they may be.
func TestLongArguments(t *testing.T) {
	for _, s := range []string{
		"mount (p" + strings.Repeat(" 'x'", 4997) + ")", "mount (p" + strings.Repeat("'x'", 6663) + ")", "render (p " + strings.Repeat(".a ", 6663) + ")",
		"find " + strings.Repeat("a ", 199) + "a", "find " + strings.Repeat("a>", 199) + "a", "find " + strings.Repeat("[a]", 133),
	} {
		if !holds(t, s) {
			t.Errorf("%d bytes are no step", len(s))
		}
	}
}

// P30.1: Text has all numbers of a step, one space each.
func TestText(t *testing.T) {
	for want, x := range map[string]line.Step{
		"": {}, "tick": {Word: "tick"}, "tick -1 2 9223372036854775807": {Word: "tick", N: []int{-1, 2, math.MaxInt}}, "mount (p)": {Word: "mount", View: view.Node{Kind: view.Element, Tag: "p"}}, "find *": {Word: "find", Sel: query.Selector{{}}},
	} {
		if got := x.Text(); got != want {
			t.Errorf("the Text of %+v is %q, wanted %q", x, got, want)
		}
	}
}

// P30.1: all words, and how many numbers they need.
func TestWords(t *testing.T) {
	l := line.Words()
	if len(l) != len(all) || !slices.IsSorted(l) {
		t.Errorf("the words are %v", l)
	}
	for _, word := range l {
		if n, is := all[word]; !is || line.Needs(word) != n {
			t.Errorf("%s needs %d numbers", word, line.Needs(word))
		}
	}
	for _, word := range []string{"", "x", "tick ", "Tick", " tick", "engine 5", "tic", "\xff", strings.Repeat("tick", 1<<16)} {
		if n := line.Needs(word); n != 0 {
			t.Errorf("%q needs %d numbers", word, n)
		}
	}
}

// Rule 5: results share no memory, and Text changes nothing.
func TestMemory(t *testing.T) {
	l := line.Words()
	for i := range l {
		l[i] = "zz"
	}
	if line.Words()[0] != "audit" || line.Needs("engine") != 5 {
		t.Error("a list of words is the program's own")
	}
	for _, s := range []string{"engine 1 2 3 4 5", "mount (p .on @a=b w=1 (b .on))", "find a.b[c] > d"} {
		x, _ := line.Parse(s)
		y, _ := line.Parse(s)
		if x.Text(); !same(x, y) {
			t.Errorf("%s has become %+v", s, x)
		}
		for i := range x.N {
			x.N[i] = 99
		}
		for i := range x.Sel {
			x.Sel[i] = query.Part{}
		}
		for i := range x.View.Kids {
			x.View.Classes[0], x.View.Attrs[0].Value, x.View.Styles[0].Value, x.View.Kids[i] = "zz", "zz", 99, view.Node{}
		}
		if y.Text() != s {
			t.Errorf("another step of %s is written as %s", s, y.Text())
		}
	}
	x := line.Step{Word: "engine", N: make([]int, 5, 9)}
	if x.Text(); !slices.Equal(x.N[:9], make([]int, 9)) {
		t.Errorf("the numbers have become %v", x.N[:9])
	}
}

// P1: strings of any bytes.
func TestAnyBytes(t *testing.T) {
	r := rand.New(rand.NewSource(301))
	for range 20000 {
		b := make([]byte, r.Intn(30))
		for i := range b {
			b[i] = byte(r.Intn(256))
		}
		s := choose(r, "", "", "tick ", "mount ", "find ", "engine 1 2 3 4 ") + string(b)
		holds(t, s)
		line.Needs(s)
	}
	holds(t, strings.Repeat("tick 1 ", 1<<20))
	holds(t, strings.Repeat("\x00", 20100))
}
