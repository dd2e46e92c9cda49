package layout_test

import (
	"math"
	"math/rand"
	"slices"
	"strings"
	"testing"

	"scrim/api"
	"scrim/arena"
	"scrim/flow"
	"scrim/layout"
	"scrim/props"
	"scrim/rect"
	"scrim/still"
)

// numbers are a source of numbers for styles.
type numbers func() int

// small returns numbers of which most fit into one another.
func small(r *rand.Rand) numbers { return func() int { return r.Intn(9) - 1 } }

// wide returns numbers around the limits, too.
func wide(r *rand.Rand) numbers {
	edges := []int{
		math.MinInt, -1 << 40, math.MinInt32, -1, 0, 1, 2, 3, 64, 65, most / 2, most/2 + 1, most - 2, most - 1, most, most + 1, 1 << 40, math.MaxInt,
	}
	return func() int { return edges[r.Intn(len(edges))] }
}

// styled returns styles of which most matter; they need not have the form of a
// Map.
func styled(r *rand.Rand, n numbers) props.Map[int] {
	names := []string{"w", "h", "pad", "gap", "cols", "flow", "flow", "flow", "ink", "width", "W", "t-w", ""}
	var m props.Map[int]
	for range r.Intn(7) {
		p := props.Pair[int]{Name: names[r.Intn(len(names))], Value: n()}
		if p.Name == "flow" && r.Intn(4) > 0 {
			p.Value = r.Intn(4)
		}
		m = append(m, p)
	}
	return m
}

// some returns a tree that is at most so deep.
func some(r *rand.Rand, n numbers, depth int) still.Tree {
	x := still.Tree{ID: r.Intn(200), Kind: []int{arena.Element, arena.Element, arena.Element, arena.Text, 0, 3}[r.Intn(6)]}
	x.Text = strings.Repeat("x", r.Intn(6))
	if x.Kind != arena.Text || r.Intn(4) == 0 {
		x.Styles = styled(r, n)
	}
	for range r.Intn(6) {
		if depth > 1 {
			x.Kids = append(x.Kids, some(r, n, depth-1))
		}
	}
	return x
}

// P15.1 and P1: trees with numbers of any size.
func TestAgainstModel(t *testing.T) {
	r := rand.New(rand.NewSource(15))
	for range 5000 {
		agree(t, some(r, small(r), 4), r.Intn(30)-2)
		agree(t, some(r, wide(r), 3), wide(r)())
		mixed := []numbers{small(r), small(r), wide(r)}
		agree(t, some(r, func() int { return mixed[r.Intn(3)]() }, 4), mixed[r.Intn(3)]())
	}
}

// marked returns a tree to which reserved things are added everywhere.
func marked(r *rand.Rand, t still.Tree) still.Tree {
	names := []string{"t-w", "t-h", "t-pad", "t-gap", "t-cols", "t-flow", "t-dx", "t-dy", "t-ghost", "t-wait", "t-hold", "t-move", "t-enter-from", "t-leave-to"}
	t.Classes, t.Attrs, t.Styles = slices.Clone(t.Classes), slices.Clone(t.Attrs), slices.Clone(t.Styles)
	for range r.Intn(5) {
		t.Classes = append(t.Classes, names[r.Intn(len(names))])
		t.Attrs = append(t.Attrs, props.Pair[string]{Name: names[r.Intn(len(names))], Value: "9"})
		t.Styles = slices.Insert(t.Styles, r.Intn(len(t.Styles)+1), props.Pair[int]{Name: names[r.Intn(len(names))], Value: r.Intn(9)})
	}
	kids := t.Kids
	t.Kids = nil
	for _, kid := range kids {
		t.Kids = append(t.Kids, marked(r, kid))
	}
	return t
}

// P15.2: what is reserved does not count.
func TestReserved(t *testing.T) {
	r := rand.New(rand.NewSource(16))
	for range 5000 {
		x, width := some(r, small(r), 4), r.Intn(30)-2
		y := marked(r, x)
		if layout.Natural(x) != layout.Natural(y) || layout.Size(x, width) != layout.Size(y, width) || !slices.Equal(layout.Of(x, width), layout.Of(y, width)) {
			t.Fatalf("%s and %s are not at the same positions", x.Show(true), y.Show(true))
		}
	}
}

// must fails with an error.
func must(t *testing.T, e api.Errno) {
	t.Helper()
	if e != api.OK {
		t.Fatalf("error %d", e)
	}
}

// create creates a tree as a kid of a parent in d.
func create(t *testing.T, d *arena.Dom, parent int, x still.Tree) {
	t.Helper()
	var id int
	var e api.Errno
	if x.Kind == arena.Text {
		id, e = d.Text(x.Text)
	} else {
		id, e = d.Element("p")
	}
	must(t, e)
	for _, p := range x.Styles {
		must(t, d.SetStyle(id, p.Name, p.Value))
	}
	p, _ := d.Get(parent)
	must(t, d.Insert(parent, len(p.Kids), id))
	for _, kid := range x.Kids {
		create(t, d, id, kid)
	}
}

// P15.1: the root of a Dom is an Element without styles. Nodes that are loose are
// not below it.
func TestDom(t *testing.T) {
	for _, c := range []struct {
		s     string
		width int
		want  string
	}{
		{"(div flow=2 cols=2 gap=1 pad=1 'ab' (p h=3) 'c')", 40, "0 0 0 40 7; 1 0 0 40 7; 2 1 1 2 1; 3 20 1 18 3; 4 1 5 1 1"},
		{"(div)", 40, "0 0 0 40 0; 1 0 0 40 0"}, {"'abc'", 2, "0 0 0 2 1; 1 0 0 3 1"}, {"(p w=5 'abc')", -2, "0 0 0 0 1; 1 0 0 5 1; 2 0 0 3 1"},
	} {
		d := arena.New(9)
		create(t, d, 0, tree(t, c.s))
		_, e := d.Element("p")
		must(t, e)
		if got := written(layout.Dom(d, c.width)); got != c.want {
			t.Errorf("Dom with %s for %d is\n%s, wanted\n%s", c.s, c.width, got, c.want)
		}
	}
	for _, d := range []*arena.Dom{arena.New(9), {}} {
		if got := written(layout.Dom(d, 7)); got != "0 0 0 7 0" {
			t.Errorf("without any nodes: %s", got)
		}
	}
	d := arena.New(99)
	create(t, d, 0, tree(t, "(p w=4 'abc' (p pad=1))"))
	create(t, d, 0, tree(t, "(p h=2)"))
	must(t, d.Move(4, 0))
	all, _ := still.Read(d, 0)
	if got := written(layout.Dom(d, 9)); got != "0 0 0 9 5; 1 0 2 4 3; 2 0 2 3 1; 3 0 3 4 2; 4 0 0 9 2" {
		t.Errorf("of two kids: %s", got)
	}
	if again, _ := still.Read(d, 0); !still.Same(all, again) || !slices.Equal(all.IDs(), again.IDs()) {
		t.Error("the Dom was changed")
	}
}

// Rule 5: nothing that is passed is changed, and no memory is shared.
func TestMemory(t *testing.T) {
	x, same := tree(t, "(p pad=1 w=9 flow=1 'ab' (p h=2 gap=3 'c' 'd') 'e')"), tree(t, "(p pad=1 w=9 flow=1 'ab' (p h=2 gap=3 'c' 'd') 'e')")
	slices.Reverse(x.Styles)
	before := slices.Clone(x.Styles)
	s, again := layout.Of(x, 20), layout.Of(x, 20)
	layout.Natural(x)
	layout.Size(x, 20)
	if !still.Same(x, same) || !slices.Equal(x.IDs(), same.IDs()) || !slices.Equal(x.Styles, before) {
		t.Errorf("what was passed is %s", x.Show(true))
	}
	clear(s[:cap(s)])
	clear(x.Styles)
	clear(x.Kids)
	if got := written(again); got != "1 0 0 9 4; 2 1 1 2 1; 3 3 1 1 2; 4 3 1 1 1; 5 3 5 1 1; 6 4 1 1 1" {
		t.Errorf("a change elsewhere made %s", got)
	}
}

// P1: deep trees and wide ones end soon, in each way.
func TestLargeTrees(t *testing.T) {
	const many = 1 << 16
	for way := range 4 {
		styles := props.Map[int]{{Name: "flow", Value: way}, {Name: "pad", Value: 1}}
		deep := text(many, "ab")
		for id := many - 1; id >= 0; id-- {
			deep = still.Tree{ID: id, Kind: arena.Element, Styles: styles, Kids: []still.Tree{deep}}
		}
		if got := layout.Natural(deep); got != 2*many+2 {
			t.Errorf("a deep tree is %d wide", got)
		}
		s := layout.Of(deep, 2*many+2)
		for id, e := range s {
			want := rect.Rect{X: id, Y: id, W: 2 + 2*(many-id), H: 1 + 2*(many-id)}
			if e.ID != id || e.Rect != want {
				t.Fatalf("%d is %v, wanted %v", id, e, want)
			}
		}
		if len(s) != many+1 {
			t.Errorf("%d nodes", len(s))
		}
		broad := still.Tree{Kind: arena.Element, Styles: styles}
		for id := range many {
			broad.Kids = append(broad.Kids, text(id+1, "ab"))
		}
		if got := layout.Size(broad, 4); got != (flow.Size{W: 4, H: many + 2}) {
			t.Errorf("a wide tree is %v", got)
		}
		if s := layout.Of(broad, 4); len(s) != many+1 || s[many].Rect != (rect.Rect{X: 1, Y: many, W: 2, H: 1}) {
			t.Errorf("a wide tree ends at %v", s[many])
		}
	}
}
