package tree_test

import (
	"math"
	"math/rand"
	"slices"
	"strings"
	"testing"

	"scrim/api"
	"scrim/arena"
	"scrim/phase"
	"scrim/props"
	"scrim/sched"
	"scrim/still"
	"scrim/trail"
	"scrim/tree"
	"scrim/view"
)

// P24.1: the document's example.
func TestExample(t *testing.T) {
	l := trail.On(arena.New(9))
	x, e := tree.Make(l, parse(t, "(ul (li 'a') 'b')"))
	if e != api.OK || x == nil {
		t.Fatalf("Make is %v, %d", x, e)
	}
	got, _ := still.Read(l.Dom, 1)
	if got.Show(true) != "(1:ul (2:li 3:'a') 4:'b')" {
		t.Errorf("it has made %s", got.Show(true))
	}
}

// P24.1: every node is created, dressed and appended before the next one; an Element
// only gets what it has.
func TestMakeInOrder(t *testing.T) {
	l := trail.On(arena.New(9))
	l.Element("p")
	l.Remove(1)
	l.Clear()
	tree.Make(l, parse(t, "(ul .b .a .b w=3 @z=1 @a= '' (li .on 'x' '' 'y') 'z' 'w' (p))"))
	want := []trail.Op{
		{Kind: trail.Element, A: 2, Name: "ul"}, {Kind: trail.Class, A: 2, Name: "b"}, {Kind: trail.Class, A: 2, Name: "a"},
		{Kind: trail.Attr, A: 2, Name: "a"}, {Kind: trail.Attr, A: 2, Name: "z", Value: "1"}, {Kind: trail.Style, A: 2, Name: "w", C: 3},
		{Kind: trail.Element, A: 3, Name: "li"}, {Kind: trail.Class, A: 3, Name: "on"}, {Kind: trail.Insert, A: 2, B: 0, C: 3},
		{Kind: trail.Text, A: 4, Value: "xy"}, {Kind: trail.Insert, A: 3, B: 0, C: 4},
		{Kind: trail.Text, A: 5, Value: "zw"}, {Kind: trail.Insert, A: 2, B: 1, C: 5},
		{Kind: trail.Element, A: 6, Name: "p"}, {Kind: trail.Insert, A: 2, B: 2, C: 6},
	}
	if got := l.Ops(); !slices.Equal(got, want) {
		t.Errorf("the Ops are %v, wanted %v", got, want)
	}
}

// P24.1: what an item has: its node of the view without kids, and nothing that waits.
func TestItems(t *testing.T) {
	x, _ := tree.Make(trail.On(arena.New(9)), parse(t, "(ul #k !group !enter=3 !appear (li #a .on 'hi') (li #b))"))
	for i, want := range []string{"(ul #k !group !enter=3 !appear)", "(li #a .on)", "'hi'", "(li #b)"} {
		y := below(x)[i]
		if !view.Same(y.View, parse(t, want)) || y.State != (phase.State{}) || y.Job != (sched.Ref{}) || y.MoveJob != (sched.Ref{}) {
			t.Errorf("the item %d is %+v", i, y)
		}
	}
	if x.Parent != nil {
		t.Errorf("its parent is %v", x.Parent)
	}
	told(t, x)
}

// P24.1: without room for all nodes nothing is created; empty Texts need no room, and
// adjacent ones need it once.
func TestRoom(t *testing.T) {
	n := parse(t, "(ul '' (li 'a' 'b') '' (li) 'c' '' 'd')")
	for most := 1; most <= 8; most++ {
		l := trail.On(arena.New(most))
		l.Element("p")
		l.Clear()
		before := all(l.Dom)
		x, e := tree.Make(l, n)
		if most >= 6 && (e != api.OK || x == nil || l.Room() != most-6) {
			t.Errorf("with %d nodes Make is %v, %d, and leaves room for %d", most, x, e, l.Room())
		}
		if most < 6 && (e != api.ErrNodes || x != nil || all(l.Dom) != before || len(l.Ops()) > 0) {
			t.Errorf("with %d nodes Make is %v, %d, after %v", most, x, e, l.Ops())
		}
	}
}

// P24.1: a Text may be a view, also an empty one.
func TestMakeText(t *testing.T) {
	for _, s := range []string{"", "hi", strings.Repeat("x", 99)} {
		l := trail.On(arena.New(1))
		x, e := tree.Make(l, view.Node{Kind: view.Text, Text: s})
		if e != api.OK || x.ID != 1 || x.View.Text != s || !slices.Equal(l.Ops(), []trail.Op{{Kind: trail.Text, A: 1, Value: s}}) {
			t.Errorf("a Text: %+v, %d, %v", x, e, l.Ops())
		}
	}
}

// P24.1, P24.2 and P1: any views, one after the other, over the same nodes.
func TestMakeAgainstModel(t *testing.T) {
	r, errors := rand.New(rand.NewSource(24)), map[api.Errno]int{}
	for range 1000 {
		l := trail.On(arena.New(20))
		for range 4 {
			n := parse(t, written(r, 3, ""))
			start, first, want := l.Clone(), l.Next(), changes(n, l.Next())
			nodes, parents := shown(n)
			x, e := tree.Make(l, n)
			errors[e]++
			if len(nodes) > start.Room() {
				if e != api.ErrNodes || x != nil || all(l.Dom) != all(start) || len(l.Ops()) > 0 {
					t.Fatalf("without room Make is %v, %d", x, e)
				}
				continue
			}
			if e != api.OK || !slices.Equal(l.Ops(), want) {
				t.Fatalf("Make is %d with %v, wanted %v", e, l.Ops(), want)
			}
			l.Clear()
			told(t, x)
			items := below(x)
			for i, y := range items {
				up := parents[i]
				if y.ID != first+i || !view.Same(y.View, nodes[i]) || (up < 0) != (y.Parent == nil) || up >= 0 && y.Parent != items[up] {
					t.Fatalf("the item %d is %+v, of %+v", i, y, nodes[i])
				}
			}
			made, _ := still.Read(l.Dom, x.ID)
			top, _ := l.Get(x.ID)
			if len(items) != len(nodes) || !still.Same(made, still.Of(n)) || top.Parent != -1 || !slices.IsSorted(made.IDs()) {
				t.Fatalf("it has made %s", made.Show(true))
			}
			if trail.Replay(start, want); all(start) != all(l.Dom) {
				t.Fatalf("the nodes are %s, wanted %s", all(l.Dom), all(start))
			}
		}
	}
	if errors[api.OK] < 1000 || errors[api.ErrNodes] < 100 {
		t.Errorf("the errors were %v", errors)
	}
}

// P24.1: the Normal of a valid view may have texts that are too long.
func TestMakeNormal(t *testing.T) {
	long := strings.Repeat("x", api.MaxText)
	n := parse(t, "(p '"+long+"' '"+long+"')").Normal()
	l := trail.On(arena.New(2))
	if x, e := tree.Make(l, n); e != api.OK || x.Kids[0].View.Text != long+long {
		t.Errorf("Make is %v, %d", x, e)
	}
}

// P1: a view that is not valid returns, and where no node can have what it says,
// nothing is created.
func TestMakeInvalid(t *testing.T) {
	p := func(kids ...view.Node) view.Node { return view.Node{Kind: view.Element, Tag: "p", Kids: kids} }
	text := view.Node{Kind: view.Text, Text: "x"}
	named := func(name string) []view.Node {
		return []view.Node{
			{Kind: view.Slot, Tag: name}, {Kind: view.Group, Tag: "p", Classes: []string{"a", name}},
			{Tag: "p", Attrs: props.Of(props.Pair[string]{Name: name})}, {Kind: 9, Tag: "p", Styles: props.Of(props.Pair[int]{Name: name})},
		}
	}
	spoilt := []view.Node{{}, {Kind: math.MinInt}, {Kind: view.Text, Text: "y", Kids: []view.Node{text}}}
	for _, name := range []string{"", "A", "1a", strings.Repeat("a", 17), "\xff"} {
		spoilt = append(spoilt, named(name)...)
	}
	for _, bad := range spoilt {
		for _, n := range []view.Node{bad, p(bad), p(text, p(p(), bad), text)} {
			l := trail.On(arena.New(9))
			before := all(l.Dom)
			if x, e := tree.Make(l, n); e == api.OK || x != nil || all(l.Dom) != before || len(l.Ops()) > 0 {
				t.Errorf("Make of %+v is %v, %d, after %v", n, x, e, l.Ops())
			}
		}
	}
	for _, n := range []view.Node{{Kind: 9, Tag: "p"}, {Kind: view.Element, Tag: "p", Text: "x", Key: "(", Classes: []string{"t-x"}}, {Kind: view.Slot, Tag: "p", Kids: []view.Node{text, text, p()}}} {
		if x, e := tree.Make(trail.On(arena.New(9)), n); e != api.OK || len(below(x)) != n.Normal().Size() {
			t.Errorf("Make of %+v is %v, %d", n, x, e)
		}
	}
}

// P1: a zero Log has room for one node; a view of any depth is made.
func TestMakeAnywhere(t *testing.T) {
	l := &trail.Log{}
	if x, e := tree.Make(l, parse(t, "(p 'x')")); x != nil || e != api.ErrNodes {
		t.Errorf("two nodes: %v, %d", x, e)
	}
	if x, e := tree.Make(l, parse(t, "(p .on)")); e != api.OK || x.ID != 1 || l.Count() != 1 {
		t.Errorf("one node: %v, %d", x, e)
	}
	n := view.Node{Kind: view.Text, Text: "x"}
	for range 5000 {
		n = view.Node{Kind: view.Element, Tag: "p", Kids: []view.Node{n}}
	}
	x, e := tree.Make(trail.On(arena.New(65536)), n)
	if e != api.OK || len(x.Order()) != 5001 || x.Find(5001).View.Text != "x" {
		t.Errorf("a deep view: %d", e)
	}
	wide := view.Node{Kind: view.Element, Tag: "p", Kids: slices.Repeat([]view.Node{{Kind: view.Element, Tag: "p"}}, 65535)}
	if x, e = tree.Make(trail.On(arena.New(65536)), wide); e != api.OK || len(x.Kids) != 65535 || x.Kids[65534].ID != 65536 {
		t.Errorf("a wide view: %d", e)
	}
}

// Rule 5: the view that is passed is not changed and not kept.
func TestMakeMemory(t *testing.T) {
	r := rand.New(rand.NewSource(245))
	for range 500 {
		text := written(r, 3, "")
		n, l := parse(t, text), trail.On(arena.New(200))
		x, _ := tree.Make(l, n)
		if !view.Same(n, parse(t, text)) {
			t.Fatalf("%s has become %+v", text, n)
		}
		items, nodes := told(t, x), all(l.Dom)
		scribble(n)
		if told(t, x) != items || all(l.Dom) != nodes {
			t.Fatalf("%s is kept", text)
		}
		for _, y := range below(x) {
			scribble(y.View)
		}
		if all(l.Dom) != nodes {
			t.Fatalf("%s is shared", text)
		}
	}
}

// scribble changes everything that is in the memory of a view.
func scribble(n view.Node) {
	for i := range n.Classes {
		n.Classes[i] = "zz"
	}
	for i := range n.Attrs {
		n.Attrs[i].Value = "zz"
	}
	for i := range n.Styles {
		n.Styles[i].Value = 99
	}
	for i := range n.Kids {
		scribble(n.Kids[i])
		n.Kids[i].Text = "zz"
	}
}
