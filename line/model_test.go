package line_test

import (
	"math"
	"math/rand"
	"regexp"
	"slices"
	"strconv"
	"strings"

	"scrim/api"
	"scrim/line"
	"scrim/notation"
	"scrim/query"
	"scrim/view"
)

// The lines that there are, as patterns.
var (
	alone    = regexp.MustCompile(`^ *(unmount|frame|show|erased|view|rects|hooks|pending|clock|audit|rest) *$`)
	single   = regexp.MustCompile(`^ *(tick|end|cancel|look) +(0|[1-9][0-9]{0,9}) *$`)
	config   = regexp.MustCompile(`^ *(engine)((?: +(?:0|[1-9][0-9]{0,9})){5}) *$`)
	shows    = regexp.MustCompile(`^(?s) *(mount|render)(?: (.*))?$`)
	searches = regexp.MustCompile(`^(?s) *(find)(?: (.*))?$`)
)

// model is Parse, spelt out by patterns.
func model(s string) (line.Step, api.Errno) {
	if len(s) > 20100 {
		return line.Step{}, api.ErrBig
	}
	if m := shows.FindStringSubmatch(s); m != nil {
		n, _, e := notation.Parse(m[2])
		if e != api.OK {
			return line.Step{}, e
		}
		return line.Step{Word: m[1], View: n}, api.OK
	}
	if m := searches.FindStringSubmatch(s); m != nil {
		sel, _, e := query.Parse(m[2])
		if e != api.OK {
			return line.Step{}, e
		}
		return line.Step{Word: m[1], Sel: sel}, api.OK
	}
	for _, form := range []*regexp.Regexp{alone, single, config} {
		if m := form.FindStringSubmatch(s); m != nil {
			x := line.Step{Word: m[1]}
			for _, digits := range strings.Fields(strings.Join(m[2:], "")) {
				n, _ := strconv.Atoi(digits)
				if x.N = append(x.N, n); n > math.MaxInt32 {
					return line.Step{}, api.ErrForm
				}
			}
			return x, api.OK
		}
	}
	return line.Step{}, api.ErrForm
}

// same reports whether two steps are equal; lists may be nil.
func same(a, b line.Step) bool {
	return a.Word == b.Word && slices.Equal(a.N, b.N) && view.Same(a.View, b.View) && slices.EqualFunc(a.Sel, b.Sel, func(p, q query.Part) bool {
		return p.Tag == q.Tag && p.Child == q.Child && slices.Equal(p.Classes, q.Classes) && slices.Equal(p.Pairs, q.Pairs)
	})
}

func choose[T any](r *rand.Rand, l ...T) T { return l[r.Intn(len(l))] }

// gap is some spaces by chance.
func gap(r *rand.Rand) string { return choose(r, "", " ", " ", " ", "  ", "     ") }

// node is a view by chance, which need not be valid.
func node(r *rand.Rand, deep int) string {
	if r.Intn(4) == 0 {
		return choose(r, "''", "'hi'", "' a  b '", "'(#.@)'")
	}
	s := "(" + gap(r) + choose(r, "p", "ul", "t-x")
	for _, item := range []string{"#k", ".on", ".on", "@a=b", "@t-x=", "w=3", "h=-0", "!group", "!slot", "!enter=5", "!enter=0", "!leave=-1", "!move=1000", "!appear", "!moves", "!out-in", "!in-out"} {
		if r.Intn(8) == 0 {
			s += " " + gap(r) + item
		}
	}
	for range r.Intn(4) {
		if deep > 0 {
			s += gap(r) + node(r, deep-1)
		}
	}
	return s + gap(r) + ")"
}

// selector is one by chance, or something like one.
func selector(r *rand.Rand) string {
	s := gap(r)
	for range r.Intn(5) {
		s += choose(r, "a", "b-1", "*", "", ".on", "[k]", "[k=v]") + choose(r, "", ".x", "[l=2]") + choose(r, " ", " > ", ">", "   ")
	}
	return s + choose(r, "a", ".x", "li", "")
}

// written is a line by chance. Most of them are right.
func written(r *rand.Rand) string {
	number := func() string {
		return choose(r, "0", "1", "7", "40", "2147483647", "999", strconv.Itoa(r.Intn(1<<31)))
	}
	s := gap(r)
	switch r.Intn(6) {
	case 0:
		s += choose(r, "mount", "render") + " " + gap(r) + node(r, 3)
	case 1:
		s += "find " + selector(r)
	case 2:
		s += choose(r, "tick", "end", "cancel", "look") + " " + gap(r) + number()
	case 3:
		s += "engine"
		for range 5 + r.Intn(20)/19 {
			s += " " + gap(r) + number()
		}
	default:
		s += choose(r, line.Words()...)
	}
	return s + gap(r)
}
