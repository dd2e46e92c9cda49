package tree_test

import (
	"fmt"
	"math"
	"math/rand"
	"slices"
	"strings"
	"testing"

	"scrim/api"
	"scrim/arena"
	"scrim/dress"
	"scrim/notation"
	"scrim/sched"
	"scrim/trail"
	"scrim/tree"
	"scrim/view"
)

func choose[T any](r *rand.Rand, l ...T) T { return l[r.Intn(len(l))] }

// parse returns the view that is written so, which must be valid.
func parse(t *testing.T, s string) view.Node {
	t.Helper()
	n, at, e := notation.Parse(s)
	if e != api.OK || n.Check(api.MaxDepth, api.MaxNodes) != api.OK {
		t.Fatalf("%s is no view: %d at %d", s, e, at)
	}
	return n
}

// all is every node as a text, loose ones included, and what comes next.
func all(d *arena.Dom) string {
	var b strings.Builder
	for id := range d.Next() {
		if n, there := d.Get(id); there {
			fmt.Fprintf(&b, "%+v\n", n)
		}
	}
	fmt.Fprintf(&b, "next %d room %d", d.Next(), d.Room())
	return b.String()
}

// below returns an item and all below it, each before those below it, without any
// recursion.
func below(x *tree.Item) []*tree.Item {
	var found []*tree.Item
	for todo := []*tree.Item{x}; len(todo) > 0; {
		y := todo[len(todo)-1]
		todo = todo[:len(todo)-1]
		found = append(found, y)
		for _, kid := range slices.Backward(y.Kids) {
			todo = append(todo, kid)
		}
	}
	return found
}

// told is everything of an item and of those below it as a text. It fails if a kid
// has another parent.
func told(t *testing.T, x *tree.Item) string {
	t.Helper()
	var b strings.Builder
	for _, y := range below(x) {
		fmt.Fprintf(&b, "%d %+v %+v %v %v:", y.ID, y.View, y.State, y.Job, y.MoveJob)
		for _, kid := range y.Kids {
			fmt.Fprintf(&b, " %d", kid.ID)
			if kid.Parent != y {
				t.Fatalf("the parent of %d, which is below %d, is another one", kid.ID, y.ID)
			}
		}
		b.WriteByte('\n')
	}
	return b.String()
}

// shown returns the nodes of a view as they are shown, in order, and the position of
// each one's parent among them; -1 for the view itself. Whatever stands behind a node
// whose kids are put in has a parent before it, so that no position changes later.
func shown(n view.Node) ([]view.Node, []int) {
	nodes, parents := []view.Node{n.Normal()}, []int{-1}
	for i := 0; i < len(nodes); i++ {
		kids := nodes[i].Kids
		nodes[i].Kids = nil
		nodes = slices.Insert(nodes, i+1, kids...)
		parents = slices.Insert(parents, i+1, slices.Repeat([]int{i}, len(kids))...)
	}
	return nodes, parents
}

// changes returns what must be recorded when a view is made, and the first new node
// has this number.
func changes(n view.Node, first int) []trail.Op {
	var ops []trail.Op
	nodes, parents := shown(n)
	for i, n := range nodes {
		id := first + i
		if n.Kind == view.Text {
			ops = append(ops, trail.Op{Kind: trail.Text, A: id, Value: n.Text})
		} else {
			ops = append(ops, trail.Op{Kind: trail.Element, A: id, Name: n.Tag})
		}
		for _, c := range n.Classes {
			ops = append(ops, trail.Op{Kind: trail.Class, A: id, Name: c})
		}
		for _, p := range n.Attrs {
			ops = append(ops, trail.Op{Kind: trail.Attr, A: id, Name: p.Name, Value: p.Value})
		}
		for _, p := range n.Styles {
			ops = append(ops, trail.Op{Kind: trail.Style, A: id, Name: p.Name, C: p.Value})
		}
		if above := parents[i]; above >= 0 {
			at := 0
			for _, other := range parents[:i] {
				if other == above {
					at++
				}
			}
			ops = append(ops, trail.Op{Kind: trail.Insert, A: first + above, B: at, C: id})
		}
	}
	return ops
}

// written is a valid view as a text. With a key it may be a kid of a Group or Slot.
func written(r *rand.Rand, deep int, key string) string {
	if key == "" && r.Intn(3) == 0 {
		return choose(r, "''", "''", "'hi'", "'a b'")
	}
	words := []string{choose(r, "p", "ul", "t-x")}
	if key != "" {
		words = append(words, "#"+key)
	}
	for range r.Intn(4) {
		words = append(words, "."+choose(r, "a", "b", "on"))
	}
	words = append(words, choose(r, "", "@a=1", "@b= @a=x", "w=4 h=-1", "@w=w w=0"))
	keys := []string{"", "", "x", ""}
	if key == "" {
		switch r.Intn(4) {
		case 0:
			words, keys = append(words, choose(r, "!group", "!group !move=3 !moves")), []string{"c", "b", "a", "d"}
		case 1:
			words, keys = append(words, choose(r, "!slot", "!slot !leave=2 !out-in")), []string{"c"}
		}
	}
	for _, key := range keys[:r.Intn(len(keys)+1)*min(deep, 1)] {
		words = append(words, written(r, deep-1, key))
	}
	return "(" + strings.Join(words, " ") + ")"
}

// looks are valid looks, one of each kind and move.
func looks() []dress.Look {
	var l []dress.Look
	for kind := dress.Still; kind <= dress.LeaveTo; kind++ {
		l = append(l, dress.Look{Kind: kind})
	}
	return append(l, dress.Look{Move: dress.Away, DX: -3, DY: 4}, dress.Look{Move: dress.Away, DX: math.MaxInt32}, dress.Look{Move: dress.Back})
}

// someItem returns items that need not be represented by any nodes, with looks that
// need not be valid. Some IDs are the same.
func someItem(r *rand.Rand, deep int) *tree.Item {
	x := &tree.Item{ID: r.Intn(30) - 2, Job: sched.Ref{Frame: r.Intn(2) == 0, Token: r.Intn(9)}, MoveJob: sched.Ref{Token: r.Intn(9)}}
	x.View = view.Node{Kind: view.Element, Tag: "p", Classes: []string{"a", "b"}[:r.Intn(3)], Key: choose(r, "", "k")}
	x.State.Look = choose(r, append(looks(), dress.Look{}, dress.Look{}, dress.Look{Kind: 7}, dress.Look{Kind: -1}, dress.Look{Move: 3}, dress.Look{Kind: dress.Hold, Move: dress.Back}, dress.Look{DX: 4})...)
	x.State.Dur, x.State.MoveDur = r.Intn(5), r.Intn(5)
	for range r.Intn(5) * min(deep, 1) {
		kid := someItem(r, deep-1)
		kid.Parent = x
		x.Kids = append(x.Kids, kid)
	}
	return x
}
