package patch_test

import (
	"math"
	"math/rand"
	"slices"
	"testing"

	"scrim/api"
	"scrim/arena"
	"scrim/dress"
	"scrim/patch"
	"scrim/trail"
	"scrim/weave"
)

// P22.1 and P22.2: a tag that is there already is left alone, but not its errors.
func TestTag(t *testing.T) {
	l := some()
	wants(t, "the same tag", patch.Tag(l, 1, "p"), api.OK)
	noted(t, l)
	wants(t, "another tag", patch.Tag(l, 1, "ol"), api.OK)
	wants(t, "the same tag", patch.Tag(l, 1, "ol"), api.OK)
	wants(t, "the tag of a loose one", patch.Tag(l, 3, "t-x"), api.OK)
	noted(t, l, trail.Op{Kind: trail.Tag, A: 1, Name: "ol"}, trail.Op{Kind: trail.Tag, A: 3, Name: "t-x"})
	before := all(l.Dom)
	for _, c := range []struct {
		id   int
		tag  string
		want api.Errno
	}{
		{9, "p", api.ErrNode}, {9, "", api.ErrNode}, {-1, "p", api.ErrNode}, {math.MaxInt, "P", api.ErrNode},
		{0, "root", api.ErrArg}, {0, "p", api.ErrArg}, {0, "", api.ErrArg},
		{2, "", api.ErrKind}, {2, "p", api.ErrKind}, {2, "P", api.ErrKind},
		{1, "", api.ErrForm}, {1, "OL", api.ErrForm}, {1, "abcdefghijklmnopq", api.ErrForm}, {3, "1", api.ErrForm},
	} {
		if got := patch.Tag(l, c.id, c.tag); got != c.want {
			t.Errorf("Tag of %d as %q is %d, wanted %d", c.id, c.tag, got, c.want)
		}
	}
	noted(t, l)
	if all(l.Dom) != before {
		t.Errorf("after errors: %s", all(l.Dom))
	}
}

// P22.1 and P22.2: a text that is there already is left alone, but not its errors.
func TestSay(t *testing.T) {
	l := some()
	wants(t, "the same text", patch.Say(l, 2, "x"), api.OK)
	noted(t, l)
	wants(t, "no text", patch.Say(l, 2, ""), api.OK)
	wants(t, "no text again", patch.Say(l, 2, ""), api.OK)
	wants(t, "any text", patch.Say(l, 2, "'\xff"), api.OK)
	noted(t, l, trail.Op{Kind: trail.Say, A: 2}, trail.Op{Kind: trail.Say, A: 2, Value: "'\xff"})
	before := all(l.Dom)
	for _, s := range []string{"", "x", "p"} {
		wants(t, "Say of none", patch.Say(l, 9, s), api.ErrNode)
		wants(t, "Say of none", patch.Say(l, -1, s), api.ErrNode)
		wants(t, "Say of the root", patch.Say(l, 0, s), api.ErrArg)
		wants(t, "Say of an Element", patch.Say(l, 1, s), api.ErrKind)
		wants(t, "Say of a loose Element", patch.Say(l, 3, s), api.ErrKind)
	}
	noted(t, l)
	if all(l.Dom) != before {
		t.Errorf("after errors: %s", all(l.Dom))
	}
}

// P22.1 and P22.2: Tag and Say of any nodes are SetTag and SetText, but for those
// that would change nothing.
func TestTagAndSayAgainstModel(t *testing.T) {
	r := rand.New(rand.NewSource(25))
	for range 1500 {
		d := garden(r)
		l, should := trail.On(d), trail.On(d.Clone())
		for range 6 {
			id := r.Intn(d.Next()+2) - 1
			word, ask, set := choose(r, "p", "li", "root", "", "P"), patch.Tag, should.SetTag
			if r.Intn(2) == 0 {
				word, ask, set = choose(r, "", "x", "y"), patch.Say, should.SetText
			}
			before, count := all(should.Dom), len(l.Ops())
			got, want := ask(l, id, word), set(id, word)
			if got != want || all(d) != all(should.Dom) {
				t.Fatalf("%q for %d is %d with %s, wanted %d with %s", word, id, got, all(d), want, all(should.Dom))
			}
			if same := all(should.Dom) == before; same != (len(l.Ops()) == count) {
				t.Fatalf("%q for %d: %+v is recorded", word, id, l.Ops()[count:])
			}
		}
	}
}

// row returns a log over ul 1 below the root, with as many kids from 2 on, and two
// loose nodes after them, of which the second one is a Text.
func row(kids int) *trail.Log {
	d := arena.New(20)
	d.Element("ul")
	d.Insert(0, 0, 1)
	for at := range kids {
		id, _ := d.Element("li")
		d.Insert(1, at, id)
	}
	d.Element("li")
	d.Text("x")
	return trail.On(d)
}

// P22.1 and P22.3: the chapter's example, and others.
func TestKids(t *testing.T) {
	for _, c := range []struct {
		to   []int
		want []trail.Op
	}{
		{[]int{4, 2, 3}, []trail.Op{{Kind: trail.Move, A: 4}}},
		{[]int{2, 3, 4}, nil},
		{[]int{2, 3, 4, 3, 2}, nil},
		{[]int{3, 4, 2}, []trail.Op{{Kind: trail.Move, A: 2, B: 2}}},
		{[]int{4, 3, 2}, []trail.Op{{Kind: trail.Move, A: 3}, {Kind: trail.Move, A: 4}}},
		{[]int{2, 5, 3, 4}, []trail.Op{{Kind: trail.Insert, A: 1, B: 1, C: 5}}},
		{[]int{2, 3, 4, 5, 6}, []trail.Op{{Kind: trail.Insert, A: 1, B: 3, C: 6}, {Kind: trail.Insert, A: 1, B: 3, C: 5}}},
		{[]int{6, 4, 6, 5, 2, 5, 3, 4}, []trail.Op{{Kind: trail.Insert, A: 1, C: 5}, {Kind: trail.Move, A: 4}, {Kind: trail.Insert, A: 1, C: 6}}},
	} {
		l := row(3)
		wants(t, "Kids", patch.Kids(l, 1, c.to), api.OK)
		noted(t, l, c.want...)
		if n, _ := l.Get(1); !slices.Equal(n.Kids, once(c.to)) {
			t.Errorf("Kids %v are %v", c.to, n.Kids)
		}
	}
}

// P22.1: kids of the root, and of loose nodes.
func TestKidsOfOthers(t *testing.T) {
	l := row(2)
	wants(t, "Kids of the root", patch.Kids(l, 0, []int{4, 1, 5}), api.OK)
	noted(t, l, trail.Op{Kind: trail.Insert, A: 0, B: 1, C: 5}, trail.Op{Kind: trail.Insert, A: 0, B: 0, C: 4})
	l = row(2)
	wants(t, "Kids of a loose one", patch.Kids(l, 4, []int{5}), api.OK)
	wants(t, "it, with its kid", patch.Kids(l, 2, []int{4}), api.OK)
	wants(t, "no kids", patch.Kids(l, 3, nil), api.OK)
	noted(t, l, trail.Op{Kind: trail.Insert, A: 4, B: 0, C: 5}, trail.Op{Kind: trail.Insert, A: 2, B: 0, C: 4})
}

// P22.1: the errors, the first one of several, after which nothing is done.
func TestKidsErrors(t *testing.T) {
	l := row(3) // ul 1 with li 2 to 4, a loose li 5, a loose x 6
	l.Element("p")
	l.Element("q")
	l.Insert(7, 0, 8) // a loose p 7 with q 8
	l.Text("y")
	l.Insert(2, 0, 9) // y below li 2
	l.Clear()
	before := all(l.Dom)
	for _, c := range []struct {
		parent int
		to     []int
		want   api.Errno
	}{
		{99, nil, api.ErrNode}, {-1, []int{0, 99}, api.ErrNode}, {math.MinInt, []int{5}, api.ErrNode},
		{6, nil, api.ErrKind}, {6, []int{5}, api.ErrKind}, {9, []int{99}, api.ErrKind},
		{1, nil, api.ErrArg}, {1, []int{2, 3}, api.ErrArg}, {1, []int{5, 4, 3}, api.ErrArg}, {0, []int{5}, api.ErrArg}, // a Drop
		{1, []int{2, 3, 4, 99}, api.ErrArg}, {1, []int{-1, 4, 3, 2}, api.ErrArg}, {1, []int{5, 2, math.MaxInt, 3, 4}, api.ErrArg}, // does not exist
		{1, []int{2, 3, 4, 9}, api.ErrArg}, {1, []int{8, 2, 3, 4, 5}, api.ErrArg}, {7, []int{8, 2}, api.ErrArg}, // not loose
		{1, []int{2, 3, 0, 4}, api.ErrArg}, {5, []int{0}, api.ErrArg}, {0, []int{1, 0}, api.ErrArg}, // the root
		{1, []int{4, 3, 2, 1}, api.ErrArg}, {5, []int{5}, api.ErrArg}, {5, []int{6, 5}, api.ErrArg}, // itself
		{8, []int{7}, api.ErrArg}, {8, []int{5, 6, 7}, api.ErrArg}, {7, []int{8, 7}, api.ErrArg}, {2, []int{9, 1}, api.ErrArg}, // it is below
	} {
		if got := patch.Kids(l, c.parent, c.to); got != c.want {
			t.Errorf("Kids %v of %d is %d, wanted %d", c.to, c.parent, got, c.want)
		}
		noted(t, l)
		if all(l.Dom) != before {
			t.Fatalf("after Kids %v of %d: %s", c.to, c.parent, all(l.Dom))
		}
	}
}

// stepOps returns the Steps of layer 12 as Ops.
func stepOps(parent int, steps []weave.Step) []trail.Op {
	var ops []trail.Op
	for _, s := range steps {
		if s.Kind == weave.Insert {
			ops = append(ops, trail.Op{Kind: trail.Insert, A: parent, B: s.At, C: s.ID})
		} else {
			ops = append(ops, trail.Op{Kind: trail.Move, A: s.ID, B: s.At})
		}
	}
	return ops
}

// target returns kids that a node may have, with some that it may not.
func target(r *rand.Rand, d *arena.Dom, parent int) []int {
	n, _ := d.Get(parent)
	to := slices.Clone(n.Kids)
	for id := range d.Next() {
		if kidsError(d, parent, append(slices.Clone(n.Kids), id)) == api.OK && r.Intn(2) == 0 {
			to = append(to, id)
		}
	}
	if r.Intn(2) == 0 {
		r.Shuffle(len(to), func(i, j int) { to[i], to[j] = to[j], to[i] })
	}
	if r.Intn(5) == 0 {
		to = append(to, to...)
	}
	switch r.Intn(6) {
	case 0:
		return slices.Insert(to, r.Intn(len(to)+1), r.Intn(d.Next()+3)-2)
	case 1:
		return to[:r.Intn(len(to)+1)]
	}
	return to
}

// P22.1, P22.2, P22.3 and P1: any kids of any nodes; the second time nothing is
// recorded, and of the first time no more than is necessary.
func TestKidsAgainstModel(t *testing.T) {
	r, errors, moves := rand.New(rand.NewSource(26)), map[api.Errno]int{}, 0
	for range 4000 {
		d := garden(r)
		l := trail.On(d)
		for range 3 {
			parent, before := choose(r, 0, 1, r.Intn(d.Next()+2)-1), d.Clone()
			to := target(r, d, parent)
			kept, want := slices.Clone(to), kidsError(d, parent, to)
			n, _ := d.Get(parent)
			if got := patch.Kids(l, parent, to); got != want || !slices.Equal(to, kept) {
				t.Fatalf("Kids %v of %+v is %d, wanted %d", kept, n, got, want)
			}
			var ops []trail.Op
			if want == api.OK {
				ops = stepOps(parent, weave.Steps(n.Kids, to))
			}
			if !slices.Equal(l.Ops(), ops) {
				t.Fatalf("Kids %v of %+v: %+v, wanted %+v", to, n, l.Ops(), ops)
			}
			errors[want]++
			if want == api.OK {
				moves += trail.Count(ops, trail.Move)
				led(t, before, l, parent, to)
			}
			trail.Replay(before, ops)
			if all(d) != all(before) {
				t.Fatalf("after Kids %v: %s, wanted %s", to, all(d), all(before))
			}
			l.Clear()
			if again := patch.Kids(l, parent, to); again != want || len(l.Ops()) > 0 {
				t.Fatalf("Kids %v of %d, again, is %d with %+v", to, parent, again, l.Ops())
			}
		}
	}
	for _, e := range []api.Errno{api.OK, api.ErrNode, api.ErrArg, api.ErrKind} {
		if errors[e] < 200 {
			t.Errorf("the error %d came %d times only", e, errors[e])
		}
	}
	if moves < 1000 {
		t.Errorf("only %d Moves", moves)
	}
}

// led asks whether the kids are those that are required, with as few Ops as any way
// takes: one Insert for each new kid, and the fewest Moves.
func led(t *testing.T, before *arena.Dom, l *trail.Log, parent int, to []int) {
	t.Helper()
	was, _ := before.Get(parent)
	is, _ := l.Get(parent)
	to = once(to)
	if !slices.Equal(is.Kids, to) {
		t.Fatalf("Kids %v are %v", to, is.Kids)
	}
	inserts, moves := trail.Count(l.Ops(), trail.Insert), trail.Count(l.Ops(), trail.Move)
	if inserts != len(to)-len(was.Kids) || moves != fewest(was.Kids, to) || inserts+moves != len(l.Ops()) {
		t.Fatalf("from %v to %v: %+v", was.Kids, to, l.Ops())
	}
}

// P22.3 and P7: every order of six kids takes the fewest Moves.
func TestFewestMoves(t *testing.T) {
	kids := []int{2, 3, 4, 5, 6, 7}
	var orders func(first, rest []int)
	orders = func(first, rest []int) {
		for i, n := range rest {
			orders(append(slices.Clone(first), n), slices.Delete(slices.Clone(rest), i, i+1))
		}
		if len(rest) == 0 {
			l := row(6)
			before := l.Clone()
			wants(t, "Kids", patch.Kids(l, 1, first), api.OK)
			led(t, before, l, 1, first)
		}
	}
	orders(nil, kids)
}

// P1: no call with a zero Log panics; it is one over a zero Dom.
func TestZero(t *testing.T) {
	for _, id := range []int{0, 1, -1} {
		want := api.ErrNode
		if id == 0 {
			want = api.ErrArg
		}
		wants(t, "Dress", patch.Dress(&trail.Log{}, id, dress.Own{Classes: []string{"a"}}), want)
		wants(t, "Tag", patch.Tag(&trail.Log{}, id, "root"), want)
		wants(t, "Say", patch.Say(&trail.Log{}, id, ""), want)
		wants(t, "Kids", patch.Kids(&trail.Log{}, id, []int{id, 5}), want)
	}
	wants(t, "Kids", patch.Kids(&trail.Log{}, 0, nil), api.OK)
	l := &trail.Log{}
	l.Element("p")
	l.Clear()
	wants(t, "Kids", patch.Kids(l, 0, []int{1}), api.OK)
	wants(t, "Dress", patch.Dress(l, 1, dress.Own{Classes: []string{"a"}}), api.OK)
	noted(t, l, trail.Op{Kind: trail.Insert, C: 1}, trail.Op{Kind: trail.Class, A: 1, Name: "a"})
}
