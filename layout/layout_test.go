package layout_test

import (
	"math"
	"slices"
	"strconv"
	"strings"
	"testing"

	"scrim/api"
	"scrim/arena"
	"scrim/flow"
	"scrim/layout"
	"scrim/notation"
	"scrim/props"
	"scrim/rect"
	"scrim/still"
	"scrim/view"
)

// tree is a view as it stands: Texts that are adjacent are not joined, and its
// nodes are numbered from 1 on, each before those below it.
func tree(t *testing.T, s string) still.Tree {
	t.Helper()
	n, at, e := notation.Parse(s)
	if e != api.OK {
		t.Fatalf("%s is wrong at %d", s, at)
	}
	id := 0
	return numbered(n, &id)
}

func numbered(n view.Node, id *int) still.Tree {
	*id++
	x := still.Tree{ID: *id, Kind: arena.Element, Tag: n.Tag, Text: n.Text, Classes: n.Classes, Attrs: n.Attrs, Styles: n.Styles}
	if n.Kind == view.Text {
		x.Kind = arena.Text
	}
	for _, kid := range n.Kids {
		x.Kids = append(x.Kids, numbered(kid, id))
	}
	return x
}

// written is a Snap as a text: ID, X, Y, W and H of each entry.
func written(s rect.Snap) string {
	var l []string
	for _, e := range s {
		var numbers []string
		for _, n := range []int{e.ID, e.Rect.X, e.Rect.Y, e.Rect.W, e.Rect.H} {
			numbers = append(numbers, strconv.Itoa(n))
		}
		l = append(l, strings.Join(numbers, " "))
	}
	return strings.Join(l, "; ")
}

// agree holds all functions of a tree against the model.
func agree(t *testing.T, x still.Tree, width int) {
	t.Helper()
	if got, want := layout.Natural(x), natural(x); got != want {
		t.Fatalf("Natural of %s is %d, wanted %d", x.Show(true), got, want)
	}
	if got, want := layout.Size(x, width), size(x, width); got != want {
		t.Fatalf("Size of %s for %d is %v, wanted %v", x.Show(true), width, got, want)
	}
	if got, want := layout.Of(x, width), snap(x, width); !slices.Equal(got, want) {
		t.Fatalf("Of %s for %d is\n%s, wanted\n%s", x.Show(true), width, written(got), written(want))
	}
}

// P15.1: where everything is.
func TestOf(t *testing.T) {
	for _, c := range []struct {
		s     string
		width int
		want  string
	}{
		{"(p pad=1 'abc' 'de')", 9, "1 0 0 9 4; 2 1 1 3 1; 3 1 2 2 1"},
		{"'abc'", 9, "1 0 0 3 1"}, {"'abc'", 1, "1 0 0 3 1"}, {"''", -1, "1 0 0 0 1"},
		{"(p)", 9, "1 0 0 9 0"}, {"(p)", 0, "1 0 0 0 0"}, {"(p)", -1, "1 0 0 0 0"}, {"(p)", math.MinInt, "1 0 0 0 0"},
		{"(p)", math.MaxInt, "1 0 0 2147483647 0"}, {"(p)", 1 << 40, "1 0 0 2147483647 0"},
		{"(p w=4)", 9, "1 0 0 4 0"}, {"(p w=0)", 9, "1 0 0 0 0"}, {"(p w=-4)", 9, "1 0 0 0 0"}, {"(p w=12)", 9, "1 0 0 12 0"}, {"(p w=4)", -9, "1 0 0 4 0"},
		{"(p h=4 'a')", 9, "1 0 0 9 4; 2 0 0 1 1"}, {"(p h=0 'a')", 9, "1 0 0 9 0; 2 0 0 1 1"}, {"(p h=-4 'a')", 9, "1 0 0 9 0; 2 0 0 1 1"},
		{"(p h=1 pad=3 'a')", 9, "1 0 0 9 1; 2 3 3 1 1"}, {"(p pad=3)", 9, "1 0 0 9 6"}, {"(p pad=-3 'a')", 9, "1 0 0 9 1; 2 0 0 1 1"},
		{"(p gap=2 'a' 'b' (p h=3) 'c')", 9, "1 0 0 9 12; 2 0 0 1 1; 3 0 3 1 1; 4 0 6 9 3; 5 0 11 1 1"},
		{"(p gap=-2 'a' 'b')", 9, "1 0 0 9 2; 2 0 0 1 1; 3 0 1 1 1"},
		{"(p pad=2 (p pad=1 (p pad=1 'a')))", 9, "1 0 0 9 9; 2 2 2 5 5; 3 3 3 3 3; 4 4 4 1 1"},
		{"(p pad=2 (p (p w=7)))", 3, "1 0 0 3 4; 2 2 2 0 0; 3 2 2 7 0"},
		{"(p pad=2 (p))", 4, "1 0 0 4 4; 2 2 2 0 0"}, {"(p pad=2 (p))", 5, "1 0 0 5 4; 2 2 2 1 0"},
		{"(div flow=2 cols=2 gap=1 pad=1 'ab' (p h=3) 'c')", 40, "1 0 0 40 7; 2 1 1 2 1; 3 20 1 18 3; 4 1 5 1 1"},
	} {
		x := tree(t, c.s)
		if got := written(layout.Of(x, c.width)); got != c.want {
			t.Errorf("Of %s for %d is\n%s, wanted\n%s", c.s, c.width, got, c.want)
		}
		agree(t, x, c.width)
	}
}

// P15.1: each way of arranging kids, and how wide they are then.
func TestWays(t *testing.T) {
	const kids = " (p w=3 h=2) (p 'abcd') (p pad=1 (p w=2)) 'efghi')"
	const stack = "1 0 0 9 9; 2 0 0 3 2; 3 0 3 9 1; 4 0 3 4 1; 5 0 5 9 2; 6 1 6 2 0; 7 0 8 5 1"
	const twice = " 2 0 0 3 2; 3 5 0 4 1; 4 5 0 4 1; 5 0 3 4 2; 6 1 4 2 0; 7 5 3 5 1"
	for _, c := range []struct {
		styles string
		width  int
		want   string
	}{
		{"gap=1", 9, stack}, {"gap=1 cols=2", 9, stack}, {"gap=1 flow=0", 9, stack}, {"gap=1 flow=3", 9, stack},
		{"gap=1 flow=-1", 9, stack}, {"gap=1 flow=-2", 9, stack}, {"gap=1 flow=2147483647", 9, stack},
		{"gap=1 flow=2", 9, stack}, {"gap=1 flow=2 cols=0", 9, stack}, {"gap=1 flow=2 cols=-2", 9, stack}, {"gap=1 flow=2 cols=1", 9, stack},
		{"gap=1 flow=1", 9, "1 0 0 9 7; 2 0 0 3 2; 3 4 0 4 1; 4 4 0 4 1; 5 0 3 4 2; 6 1 4 2 0; 7 0 6 5 1"},
		{"gap=1 flow=1", 10, "1 0 0 10 5; 2 0 0 3 2; 3 4 0 4 1; 4 4 0 4 1; 5 0 3 4 2; 6 1 4 2 0; 7 5 3 5 1"},
		{"flow=1 pad=1 h=1", 9, "1 0 0 9 1; 2 1 1 3 2; 3 4 1 4 1; 4 4 1 4 1; 5 1 3 4 2; 6 2 4 2 0; 7 1 5 5 1"},
		{"flow=1", -9, "1 0 0 0 6; 2 0 0 3 2; 3 0 2 4 1; 4 0 2 4 1; 5 0 3 4 2; 6 1 4 2 0; 7 0 5 5 1"},
		{"gap=1 flow=2 cols=2", 8, "1 0 0 8 5; 2 0 0 3 2; 3 4 0 3 1; 4 4 0 4 1; 5 0 3 3 2; 6 1 4 2 0; 7 4 3 5 1"},
		{"gap=1 flow=2 cols=2", 9, "1 0 0 9 5;" + twice}, {"gap=1 flow=2 cols=2", 10, "1 0 0 10 5;" + twice},
		{"gap=12 flow=2 cols=2", 9, "1 0 0 9 16; 2 0 0 3 2; 3 12 0 0 1; 4 12 0 4 1; 5 0 14 0 2; 6 1 15 2 0; 7 12 14 5 1"},
		{"flow=2 cols=2 pad=5", 9, "1 0 0 9 14; 2 5 5 3 2; 3 5 5 0 1; 4 5 5 4 1; 5 5 7 0 2; 6 6 8 2 0; 7 5 7 5 1"},
	} {
		x := tree(t, "(div "+c.styles+kids)
		if got := written(layout.Of(x, c.width)); got != c.want {
			t.Errorf("%s for %d is\n%s, wanted\n%s", c.styles, c.width, got, c.want)
		}
		agree(t, x, c.width)
	}
}

// P15.1: there are 64 columns at most.
func TestMostColumns(t *testing.T) {
	for _, cols := range []string{"63", "64", "65", "100", "2147483647"} {
		n, _ := strconv.Atoi(cols)
		n = min(n, 64)
		x := tree(t, "(div flow=2 gap=1 cols="+cols+strings.Repeat(" (p h=2)", 70)+")")
		for i, e := range layout.Of(x, 4*n-1)[1:] {
			if want := (rect.Rect{X: i % n * 4, Y: i / n * 3, W: 3, H: 2}); e.Rect != want {
				t.Fatalf("%d of %s columns is %v, wanted %v", i, cols, e.Rect, want)
			}
		}
		agree(t, x, 4*n-2)
	}
}

// P15.1: natural widths.
func TestNatural(t *testing.T) {
	for s, want := range map[string]int{
		"''": 0, "'abc'": 3, "(p)": 0, "(p pad=2)": 4, "(p pad=-2)": 0, "(p 'abc' 'de')": 3, "(p pad=2 'abc' 'de')": 7,
		"(p w=0 'abc')": 0, "(p w=-1 pad=2 'abc')": 0, "(p w=9 pad=2 'abc')": 9, "(p w=1 'abc')": 1,
		"(p pad=1 (p 'a') (p pad=2 'abcdef') 'ab')": 12, "(p (p w=4 'abcdefghi') 'abc')": 4,
		"(p flow=1 gap=5 'abc' 'de')": 3, "(p flow=2 cols=2 gap=5 'abc' 'de')": 3,
		"(p pad=2147483647)": most, "(p pad=1073741824)": most, "(p pad=1073741823)": most - 1,
		"(p pad=1073741823 'a')": most, "(p pad=1 (p w=2147483647))": most,
	} {
		x := tree(t, s)
		if got := layout.Natural(x); got != want {
			t.Errorf("Natural of %s is %d, wanted %d", s, got, want)
		}
		agree(t, x, 5)
	}
}

// P15.1: the size is the same as where t is.
func TestSize(t *testing.T) {
	for _, c := range []struct {
		s     string
		width int
		want  flow.Size
	}{
		{"'abc'", 7, flow.Size{W: 3, H: 1}}, {"''", -7, flow.Size{H: 1}}, {"(p)", 7, flow.Size{W: 7}}, {"(p)", -7, flow.Size{}},
		{"(p pad=1 gap=2 'ab' (p h=3))", 7, flow.Size{W: 7, H: 8}}, {"(p w=2 h=4 pad=9 'ab')", 7, flow.Size{W: 2, H: 4}},
		{"(p flow=1 'ab' 'cd' 'ef')", 4, flow.Size{W: 4, H: 2}}, {"(p flow=1 'ab' 'cd' 'ef')", 6, flow.Size{W: 6, H: 1}},
		{"(p flow=2 cols=3 pad=1 'ab' 'cd' 'ef')", 1, flow.Size{W: 1, H: 3}},
		{"(p w=2147483647 pad=2147483647 'ab')", 1, flow.Size{W: most, H: most}},
		{"(p pad=1 gap=2147483646 'a' 'b')", most + 1, flow.Size{W: most, H: most}},
	} {
		x := tree(t, c.s)
		if got := layout.Size(x, c.width); got != c.want {
			t.Errorf("Size of %s for %d is %v, wanted %v", c.s, c.width, got, c.want)
		}
		agree(t, x, c.width)
	}
}

func text(id int, s string) still.Tree { return still.Tree{ID: id, Kind: arena.Text, Text: s} }

// P15.1: a Text has no styles and nothing below it, whatever it is given, and each
// node that is not a Text is an Element, and has no text.
func TestOddNodes(t *testing.T) {
	styles := props.Map[int]{{Name: "w", Value: 7}, {Name: "h", Value: 5}, {Name: "pad", Value: 3}}
	odd := still.Tree{ID: 2, Kind: arena.Text, Tag: "p", Text: "abcd", Styles: styles, Kids: []still.Tree{text(3, "abcdefgh"), {ID: 4, Kind: arena.Element, Styles: styles}}}
	for _, kind := range []int{math.MinInt, -1, 0, arena.Element, 3, 4, math.MaxInt} {
		x := still.Tree{ID: 1, Kind: kind, Tag: "p", Text: "a long one", Styles: styles[2:], Kids: []still.Tree{odd}}
		if got := written(layout.Of(x, 20)); got != "1 0 0 20 7; 2 3 3 4 1" || layout.Natural(x) != 10 {
			t.Errorf("of Kind %d: %s, and %d", kind, got, layout.Natural(x))
		}
		agree(t, x, 20)
	}
	if layout.Natural(odd) != 4 || layout.Size(odd, 9) != (flow.Size{W: 4, H: 1}) || written(layout.Of(odd, 9)) != "2 0 0 4 1" {
		t.Errorf("a Text with more than its text: %d %v", layout.Natural(odd), layout.Of(odd, 9))
	}
	if layout.Natural(still.Tree{}) != 0 || layout.Size(still.Tree{}, 4) != (flow.Size{W: 4}) || written(layout.Of(still.Tree{}, 4)) != "0 0 0 4 0" {
		t.Errorf("a zero Tree: %v", layout.Of(still.Tree{}, 4))
	}
	if got := layout.Natural(text(1, "\u00e4\u20ac\xff")); got != 6 {
		t.Errorf("6 bytes are %d wide", got)
	}
}

// P15.1: styles in any order, and of several with the same name the last one.
func TestOddStyles(t *testing.T) {
	x := still.Tree{ID: 1, Kind: arena.Element, Kids: []still.Tree{text(2, "ab"), text(3, "cd")}, Styles: props.Map[int]{
		{Name: "w", Value: 3}, {Name: "pad", Value: 1}, {Name: "flow", Value: 2}, {Name: "gap", Value: 1},
		{Name: "w", Value: 8}, {Name: "flow", Value: 1}, {Name: "gap", Value: 2}, {Name: "h", Value: -1}, {Name: "h", Value: 6},
	}}
	if got := written(layout.Of(x, 40)); got != "1 0 0 8 6; 2 1 1 2 1; 3 5 1 2 1" {
		t.Errorf("Of is %s", got)
	}
	agree(t, x, 40)
	for _, name := range []string{"w", "h", "pad", "gap"} {
		for _, n := range []int{math.MaxInt, 1 << 40, most + 1, math.MinInt} {
			x := tree(t, "(p 'a' 'b')")
			x.Styles = x.Styles.Set(name, n)
			agree(t, x, 3)
		}
	}
}

// P15.1: of several nodes with one ID, the last one has it.
func TestSameID(t *testing.T) {
	x := tree(t, "(p pad=1 'ab' (p h=2 'c') 'd')")
	for i, want := range []string{
		"1 1 4 1 1; 2 1 1 2 1; 3 1 2 7 2; 4 1 2 1 1", "1 0 0 9 6; 2 1 4 1 1; 3 1 2 7 2; 4 1 2 1 1", "1 0 0 9 6; 2 1 1 2 1; 3 1 4 1 1; 4 1 2 1 1",
	} {
		x.Kids[2].ID = i + 1
		if got := written(layout.Of(x, 9)); got != want {
			t.Errorf("Of is %s, wanted %s", got, want)
		}
	}
	x = tree(t, "(p pad=1 (p pad=2 'ab'))")
	x.ID, x.Kids[0].ID, x.Kids[0].Kids[0].ID = -5, -5, -6
	if got := written(layout.Of(x, 9)); got != "-6 3 3 2 1; -5 1 1 7 5" {
		t.Errorf("Of is %s", got)
	}
}
