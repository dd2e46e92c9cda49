package tree_test

import (
	"math/rand"
	"slices"
	"testing"

	"scrim/api"
	"scrim/arena"
	"scrim/dress"
	"scrim/phase"
	"scrim/props"
	"scrim/sched"
	"scrim/still"
	"scrim/trail"
	"scrim/tree"
	"scrim/view"
)

// planted returns what Make makes of a view, with nothing recorded.
func planted(t *testing.T, s string) (*trail.Log, *tree.Item) {
	t.Helper()
	l := trail.On(arena.New(40))
	x, e := tree.Make(l, parse(t, s))
	if e != api.OK {
		t.Fatalf("Make of %s is %d", s, e)
	}
	l.Clear()
	return l, x
}

// looksLike holds a node with everything below it against a text.
func looksLike(t *testing.T, l *trail.Log, id int, want string) {
	t.Helper()
	if n, _ := still.Read(l.Dom, id); n.Show(true) != want {
		t.Errorf("%d looks like %s, wanted %s", id, n.Show(true), want)
	}
}

// picked returns the items of a list for which pick holds.
func picked(l []*tree.Item, pick func(phase.State) bool) []*tree.Item {
	var found []*tree.Item
	for _, x := range l {
		if pick(x.State) {
			found = append(found, x)
		}
	}
	return found
}

func ghost(s phase.State) bool { return s.Kind >= 4 && s.Kind <= 6 }
func live(s phase.State) bool  { return !ghost(s) }
func busy(s phase.State) bool  { return s.Kind != 0 || s.Move != 0 }

// P24.1 and P1: Order, Find, Live, Ghosts, IDs, Busy and Haunted, for any items.
func TestAgainstModel(t *testing.T) {
	r := rand.New(rand.NewSource(241))
	for range 3000 {
		x := someItem(r, 3)
		before, order := told(t, x), below(x)
		if got := x.Order(); !slices.Equal(got, order) {
			t.Fatalf("%d items in order, wanted %d", len(got), len(order))
		}
		for id := -3; id < 31; id++ {
			var want *tree.Item
			if i := slices.IndexFunc(order, func(y *tree.Item) bool { return y.ID == id }); i >= 0 {
				want = order[i]
			}
			if got := x.Find(id); got != want {
				t.Fatalf("%d is %v, wanted %v", id, got, want)
			}
		}
		if got, want := x.Busy(), len(picked(order, busy)); got != want {
			t.Fatalf("%d are busy, wanted %d", got, want)
		}
		if got, want := x.Haunted(), len(picked(order, ghost)); got != want {
			t.Fatalf("%d are ghosts, wanted %d", got, want)
		}
		if !slices.Equal(x.Live(), picked(x.Kids, live)) || !slices.Equal(x.Ghosts(), picked(x.Kids, ghost)) {
			t.Fatalf("of %v, %v are live, and %v ghosts", x.Kids, x.Live(), x.Ghosts())
		}
		if ids := x.IDs(); !slices.EqualFunc(x.Kids, ids, func(y *tree.Item, id int) bool { return y.ID == id }) {
			t.Fatalf("the IDs of %v are %v", x.Kids, ids)
		}
		if told(t, x) != before {
			t.Fatalf("asking has made %s of %s", told(t, x), before)
		}
	}
}

// P24.1: each kind and move, among kids and below them.
func TestConditions(t *testing.T) {
	for _, c := range []struct {
		look          dress.Look
		busy, haunted int
	}{
		{dress.Look{}, 0, 0}, {dress.Look{DX: 4}, 0, 0},
		{dress.Look{Kind: dress.Wait}, 1, 0}, {dress.Look{Kind: dress.EnterFrom}, 1, 0}, {dress.Look{Kind: dress.EnterTo}, 1, 0},
		{dress.Look{Kind: dress.Hold}, 1, 1}, {dress.Look{Kind: dress.LeaveFrom}, 1, 1}, {dress.Look{Kind: dress.LeaveTo}, 1, 1},
		{dress.Look{Move: dress.Away, DX: 1}, 1, 0}, {dress.Look{Move: dress.Back}, 1, 0},
		{dress.Look{Kind: 7}, 1, 0}, {dress.Look{Kind: -1}, 1, 0}, {dress.Look{Move: -1}, 1, 0}, {dress.Look{Kind: dress.Hold, Move: dress.Away}, 1, 1},
	} {
		_, x := planted(t, "(ul !group (li #a (ol !group (li #b))) (li #c))")
		for _, id := range []int{1, 2, 4, 5} {
			x.State.Look, x.Find(id).State.Look = dress.Look{}, c.look
			if x.Busy() != c.busy || x.Haunted() != c.haunted {
				t.Errorf("with %d as %v, %d are busy and %d ghosts", id, c.look, x.Busy(), x.Haunted())
			}
			kids, ghosts := 2, 0
			if id == 2 || id == 5 {
				kids, ghosts = 2-c.haunted, c.haunted
			}
			if len(x.Live()) != kids || len(x.Ghosts()) != ghosts || ghosts > 0 && x.Ghosts()[0].ID != id {
				t.Errorf("with %d as %v, %d are live and %d ghosts", id, c.look, len(x.Live()), len(x.Ghosts()))
			}
			x.Find(id).State.Look = dress.Look{}
		}
	}
	_, x := planted(t, "(ul !group (li #a) (li #b) (li #c) (li #d))")
	x.Kids[0].State.Kind, x.Kids[2].State.Kind, x.State.Kind = dress.LeaveTo, dress.Hold, dress.LeaveFrom
	if !slices.Equal(x.Ghosts(), []*tree.Item{x.Kids[0], x.Kids[2]}) || !slices.Equal(x.Live(), []*tree.Item{x.Kids[1], x.Kids[3]}) {
		t.Error("the kids that are ghosts, and those that are not, are not in their order")
	}
	if x.Haunted() != 3 || x.Busy() != 3 || !slices.Equal(x.IDs(), []int{2, 3, 4, 5}) {
		t.Errorf("%d are ghosts, %d are busy, and all are %v", x.Haunted(), x.Busy(), x.IDs())
	}
}

// P24.1: kids in another order are asked in that order.
func TestKidsOutOfOrder(t *testing.T) {
	_, x := planted(t, "(ul (li 'a') (li) (li))")
	slices.Reverse(x.Kids)
	var order []int
	for _, y := range x.Order() {
		order = append(order, y.ID)
	}
	if !slices.Equal(x.IDs(), []int{5, 4, 2}) || !slices.Equal(order, []int{1, 5, 4, 2, 3}) {
		t.Errorf("the IDs are %v, and those in order %v", x.IDs(), order)
	}
	x.Kids[2].ID = 5
	if x.Find(5) != x.Kids[0] || x.Find(2) != nil || x.Find(3) != x.Kids[2].Kids[0] || x.Find(1) != x {
		t.Error("Find is not the first one in order")
	}
}

// P24.1 and rule 5: a Clone is the same, without a parent, and independent.
func TestClone(t *testing.T) {
	r := rand.New(rand.NewSource(242))
	for range 200 {
		top := someItem(r, 3)
		for _, x := range below(top) {
			before, whole := told(t, x), told(t, top)
			c := x.Clone()
			if told(t, c) != before || c.Parent != nil {
				t.Fatalf("the clone of %s is %s", before, told(t, c))
			}
			for _, y := range below(c) {
				if slices.Contains(below(top), y) {
					t.Fatalf("%v is in both", y)
				}
				scribble(y.View)
				y.ID, y.State, y.Kids = 77, phase.State{MoveDur: 5}, append(y.Kids, &tree.Item{})
			}
			if told(t, top) != whole {
				t.Fatalf("a change of the clone has made %s of %s", told(t, top), whole)
			}
		}
	}
	x := &tree.Item{View: view.Node{Kind: view.Element, Tag: "p", Attrs: props.Of(props.Pair[string]{Name: "a"}), Styles: props.Of(props.Pair[int]{Name: "w"})}}
	c := x.Clone()
	scribble(x.View)
	if c.View.Attrs[0].Value != "" || c.View.Styles[0].Value != 0 {
		t.Errorf("a change has made %v", c.View)
	}
}

// P24.1: Paint gives the node what its View has, with the marks of its look, and
// nothing else; whatever it has already stays.
func TestPaint(t *testing.T) {
	for _, look := range looks() {
		for _, next := range looks() {
			l, x := planted(t, "(ul !group (li #a .on .big @a=1 w=3 'x'))")
			kid := x.Kids[0]
			for _, kid.State.Look = range []dress.Look{look, next} {
				l.Clear()
				kid.Paint(l)
				n, _ := l.Get(2)
				want := kid.State.Put(dress.Own{Classes: kid.View.Classes, Attrs: kid.View.Attrs, Styles: kid.View.Styles})
				if !slices.Equal(n.Classes, want.Classes) || !n.Attrs.Same(want.Attrs) || !n.Styles.Same(want.Styles) || n.Tag != "li" {
					t.Fatalf("with %v it is %+v", kid.State.Look, n)
				}
			}
			if changes := len(l.Ops()); (changes == 0) != (look == next) {
				t.Errorf("%d changes from %v to %v", changes, look, next)
			}
			kid.State.Look = dress.Look{}
			kid.Paint(l)
			looksLike(t, l, 1, "(1:ul (2:li .on .big @a=1 w=3 3:'x'))")
		}
	}
}

// P24.1: only what has changed in the View is painted anew; a Text is not painted.
func TestPaintView(t *testing.T) {
	l, x := planted(t, "(p .a @b=1 w=2 'x')")
	x.View.Classes, x.View.Attrs = []string{"a", "b", "a"}, nil
	x.Paint(l)
	if got := l.Ops(); !slices.Equal(got, []trail.Op{{Kind: trail.Class, A: 1, Name: "b"}, {Kind: trail.NoAttr, A: 1, Name: "b"}}) {
		t.Errorf("the Ops are %v", got)
	}
	l.Clear()
	x.Kids[0].State.Kind = dress.LeaveTo
	x.Kids[0].Paint(l)
	if looksLike(t, l, 1, "(1:p .a .b w=2 2:'x')"); len(l.Ops()) > 0 {
		t.Errorf("a Text has got %v", l.Ops())
	}
}

// P24.1: Show changes what the item shows and its node, but neither its kids nor its
// state.
func TestShow(t *testing.T) {
	l, x := planted(t, "(ul !group (li #a .on w=1 'x' (p)) (li #b))")
	kid := x.Kids[0]
	kid.State = phase.State{Look: dress.Look{Kind: dress.LeaveFrom}, Dur: 7}
	kid.Job, kid.MoveJob = sched.Ref{Frame: true, Token: 3}, sched.Ref{Token: 4}
	n := parse(t, "(dd #c .z @a=1 w=1 'other' (p))")
	kid.Show(l, n)
	looksLike(t, l, 1, "(1:ul (2:dd .z .t-leave-from .t-leave-active @a=1 @t-ghost= w=1 3:'x' (4:p)) (5:li))")
	want := []trail.Op{
		{Kind: trail.Tag, A: 2, Name: "dd"}, {Kind: trail.NoClass, A: 2, Name: "on"},
		{Kind: trail.Class, A: 2, Name: "z"}, {Kind: trail.Class, A: 2, Name: "t-leave-from"}, {Kind: trail.Class, A: 2, Name: "t-leave-active"},
		{Kind: trail.Attr, A: 2, Name: "a", Value: "1"}, {Kind: trail.Attr, A: 2, Name: "t-ghost"},
	}
	if got := l.Ops(); !slices.Equal(got, want) {
		t.Errorf("the Ops are %v, wanted %v", got, want)
	}
	if !view.Same(kid.View, parse(t, "(dd #c .z @a=1 w=1)")) || len(kid.Kids) != 2 || kid.Parent != x || kid.ID != 2 {
		t.Errorf("the item is %+v", kid)
	}
	if kid.State != (phase.State{Look: dress.Look{Kind: dress.LeaveFrom}, Dur: 7}) || kid.Job.Token != 3 || kid.MoveJob.Token != 4 {
		t.Errorf("the item waits as %+v", kid)
	}
	l.Clear()
	if kid.Show(l, n); len(l.Ops()) > 0 {
		t.Errorf("the same again: %v", l.Ops())
	}
	scribble(n)
	if kid.View.Classes[0] != "z" || kid.View.Attrs[0].Value != "1" || kid.View.Styles[0].Value != 1 {
		t.Errorf("what was passed is kept: %+v", kid.View)
	}
}

// P24.1: Show sets the View to the node as it is passed, and the node has it as it is
// to be shown; a Text has another text, if it is another one.
func TestShowForms(t *testing.T) {
	l, x := planted(t, "(p 'x')")
	n := view.Node{Kind: view.Element, Tag: "p", Classes: []string{"b", "a", "b"}, Attrs: props.Map[string]{{Name: "b", Value: "1"}, {Name: "a"}, {Name: "b", Value: "2"}}}
	x.Show(l, n)
	looksLike(t, l, 1, "(1:p .b .a @a= @b=2 2:'x')")
	if !slices.Equal(x.View.Classes, n.Classes) || !slices.Equal(x.View.Attrs, n.Attrs) || x.View.Kids != nil {
		t.Errorf("it shows %+v", x.View)
	}
	l.Clear()
	text := x.Kids[0]
	text.Show(l, view.Node{Kind: view.Text, Text: "x"})
	if len(l.Ops()) > 0 {
		t.Errorf("the same text: %v", l.Ops())
	}
	text.Show(l, view.Node{Kind: view.Text, Text: "y"})
	if got := l.Ops(); text.View.Text != "y" || !slices.Equal(got, []trail.Op{{Kind: trail.Say, A: 2, Value: "y"}}) {
		t.Errorf("another text: %v", got)
	}
}

// P24.1: whatever an item showed before, its node is then like a new one of the other
// view, with its own look and kids.
func TestShowAgainstMake(t *testing.T) {
	r := rand.New(rand.NewSource(243))
	for range 1500 {
		l, x := planted(t, written(r, 2, ""))
		n := parse(t, written(r, 2, ""))
		if (n.Kind == view.Text) != (x.View.Kind == view.Text) {
			continue
		}
		x.State.Look = choose(r, looks()...)
		x.Show(l, n)
		n.Kids = nil
		other := trail.On(arena.New(9))
		y, _ := tree.Make(other, n)
		y.State = x.State
		y.Paint(other)
		got, _ := still.Read(l.Dom, x.ID)
		want, _ := still.Read(other.Dom, y.ID)
		if got.Kids = nil; !still.Same(got, want) {
			t.Fatalf("after Show it is %s, wanted %s", got.Show(false), want.Show(false))
		}
	}
}

// P1: a zero Item, or one whose node does not exist or is of another kind.
func TestAnyItem(t *testing.T) {
	x, l := &tree.Item{}, &trail.Log{}
	if x.Busy() != 0 || x.Haunted() != 0 || len(x.Order()) != 1 || len(x.Live()) != 0 || len(x.Ghosts()) != 0 || len(x.IDs()) != 0 {
		t.Error("a zero Item has something")
	}
	if x.Find(0) != x || x.Find(1) != nil || x.Clone() == x {
		t.Error("a zero Item is not found")
	}
	for _, n := range []view.Node{{}, {Kind: view.Text, Text: "x"}, {Kind: view.Element, Tag: "A"}, {Kind: 9, Classes: []string{""}}} {
		for _, x := range []*tree.Item{{}, {ID: 9}, {ID: -1}} {
			x.Show(l, n)
			x.Paint(l)
		}
		l, x := planted(t, "(p 'x')")
		before := all(l.Dom)
		if n.Kind == view.Text {
			x.Show(l, n)
		} else {
			x.Kids[0].Show(l, n)
		}
		if all(l.Dom) != before {
			t.Errorf("%+v has become %s", n, all(l.Dom))
		}
	}
	if len(l.Ops()) > 0 {
		t.Errorf("without a node there are %v", l.Ops())
	}
}
