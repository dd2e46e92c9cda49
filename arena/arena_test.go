package arena_test

import (
	"maps"
	"math"
	"math/rand"
	"slices"
	"strings"
	"testing"

	"scrim/api"
	"scrim/arena"
)

func wants(t *testing.T, what string, got, want api.Errno) {
	t.Helper()
	if got != want {
		t.Errorf("%s is %d, wanted %d", what, got, want)
	}
}

// element and text create a node that must be permitted.
func element(t *testing.T, d *arena.Dom, tag string) int {
	t.Helper()
	id, e := d.Element(tag)
	wants(t, "Element", e, api.OK)
	return id
}

func text(t *testing.T, d *arena.Dom, s string) int {
	t.Helper()
	id, e := d.Text(s)
	wants(t, "Text", e, api.OK)
	return id
}

// family is a Dom with ul 1 (li 2 ('hi' 3), li 4) below the root, a loose p 5
// (em 6) and a loose 'ho' 7. There may be as many nodes as most.
func family(t *testing.T, most int) (*arena.Dom, *model) {
	t.Helper()
	d, m := arena.New(most), newModel(most)
	for _, s := range []string{"ul", "li", "'hi", "li", "p", "em", "'ho"} {
		if s[0] == '\'' {
			text(t, d, s[1:])
			m.create(thing{text: true, say: s[1:]})
		} else {
			element(t, d, s)
			m.create(thing{tag: s})
		}
	}
	for _, c := range [][3]int{{0, 0, 1}, {1, 0, 2}, {2, 0, 3}, {1, 1, 4}, {5, 0, 6}} {
		wants(t, "Insert", d.Insert(c[0], c[1], c[2]), api.OK)
		m.insert(c[0], c[1], c[2])
	}
	agree(t, d, m)
	return d, m
}

// P5.1: the kinds are numbers that other layers see.
func TestKinds(t *testing.T) {
	if arena.Text != 1 || arena.Element != 2 {
		t.Errorf("the kinds are %d and %d", arena.Text, arena.Element)
	}
}

// P5.1: a new Dom has only the root, and room within the limits.
func TestNew(t *testing.T) {
	for most, want := range map[int]int{
		math.MinInt64: 1, -1: 1, 0: 1, 1: 1, 2: 2, 4096: 4096, 65535: 65535, 65536: 65536, 65537: 65536, math.MaxInt64: 65536,
	} {
		d := arena.New(most)
		agree(t, d, newModel(most))
		if d.Room() != want || d.Count() != 0 || d.Next() != 1 {
			t.Errorf("New of %d has room for %d", most, d.Room())
		}
	}
	n, is := arena.New(9).Get(0)
	if !is || !alike(n, arena.Node{Kind: arena.Element, Tag: "root", Parent: -1}) {
		t.Errorf("the root is %+v", n)
	}
}

// P5.1: the document's example.
func TestExample(t *testing.T) {
	d := arena.New(9)
	if id, e := d.Element("p"); id != 1 || e != api.OK {
		t.Errorf("Element is %d %d", id, e)
	}
	wants(t, "Insert", d.Insert(0, 0, 1), api.OK)
	wants(t, "the same again", d.Insert(0, 0, 1), api.ErrArg)
	wants(t, "Insert into itself", d.Insert(1, 0, 1), api.ErrArg)
}

// P5.1: which tags are names, and that a text may have any bytes.
func TestElementAndText(t *testing.T) {
	d, made := arena.New(99), 0
	for tag, want := range map[string]api.Errno{
		"p": api.OK, "t-x": api.OK, "h1": api.OK, "a-": api.OK, strings.Repeat("a", 16): api.OK, "root": api.OK,
		"": api.ErrForm, "1a": api.ErrForm, "P": api.ErrForm, "-a": api.ErrForm, "a b": api.ErrForm, "\xff": api.ErrForm,
		strings.Repeat("a", 17): api.ErrForm,
	} {
		id, e := d.Element(tag)
		wants(t, "Element "+tag, e, want)
		if e == api.OK {
			made++
		}
		n, is := d.Get(made)
		if e == api.OK && (id != made || !is || !alike(n, arena.Node{ID: id, Kind: arena.Element, Tag: tag, Parent: -1})) {
			t.Errorf("Element %q is %d: %+v", tag, id, n)
		}
		if e != api.OK && (id != 0 || d.Next() != made+1) {
			t.Errorf("Element %q is %d beside an error", tag, id)
		}
	}
	for _, s := range []string{"", "hi", "'", "\x00", "\xff", "t-x", strings.Repeat("x", 1<<16)} {
		id, e := d.Text(s)
		made++
		n, is := d.Get(id)
		if e != api.OK || id != made || !is || !alike(n, arena.Node{ID: id, Kind: arena.Text, Text: s, Parent: -1}) {
			t.Errorf("Text %.9q is %d %d: %+v", s, id, e, n)
		}
	}
}

// P5.1: there are no more nodes than permitted, loose ones included, and those
// that are removed make room. ErrForm is mentioned first.
func TestRoom(t *testing.T) {
	d, m := family(t, 7)
	for range 2 {
		if id, e := d.Element("p"); id != 0 || e != api.ErrNodes {
			t.Errorf("Element is %d %d", id, e)
		}
		if id, e := d.Text("p"); id != 0 || e != api.ErrNodes {
			t.Errorf("Text is %d %d", id, e)
		}
	}
	if id, e := d.Element("1"); id != 0 || e != api.ErrForm {
		t.Errorf("Element of no name is %d %d", id, e)
	}
	agree(t, d, m)
	d.Remove(5)
	m.remove(5)
	if d.Room() != 2 || element(t, d, "p") != 8 || text(t, d, "p") != 9 || d.Room() != 0 {
		t.Error("what was removed has not made room")
	}
	m.create(thing{tag: "p"})
	m.create(thing{text: true, say: "p"})
	agree(t, d, m)
}

// P5.1: the errors of Insert, of which the first counts.
func TestInsertErrors(t *testing.T) {
	d, m := family(t, 9)
	for _, c := range []struct {
		parent, at, id int
		want           api.Errno
	}{
		{9, 0, 5, api.ErrNode}, {-1, 0, 5, api.ErrNode}, {0, 0, 9, api.ErrNode}, {0, 0, -1, api.ErrNode},
		{9, -1, 0, api.ErrNode}, {3, 0, 9, api.ErrNode}, {math.MaxInt64, 0, math.MinInt64, api.ErrNode},
		{3, 0, 5, api.ErrKind}, {3, -1, 0, api.ErrKind}, {3, 0, 3, api.ErrKind}, {7, 0, 7, api.ErrKind}, {7, 9, 1, api.ErrKind},
		{0, 0, 0, api.ErrArg}, {1, 0, 0, api.ErrArg}, {5, 0, 0, api.ErrArg},
		{0, 0, 1, api.ErrArg}, {0, 1, 1, api.ErrArg}, {4, 0, 2, api.ErrArg}, {0, 0, 3, api.ErrArg}, {0, 0, 6, api.ErrArg}, {5, 0, 6, api.ErrArg},
		{5, 0, 5, api.ErrArg}, {6, 0, 5, api.ErrArg}, {1, 0, 1, api.ErrArg},
		{1, -1, 5, api.ErrArg}, {1, 3, 5, api.ErrArg}, {4, 1, 5, api.ErrArg}, {1, math.MaxInt64, 7, api.ErrArg}, {1, math.MinInt64, 7, api.ErrArg},
	} {
		wants(t, "Insert", d.Insert(c.parent, c.at, c.id), c.want)
		agree(t, d, m)
	}
}

// P5.1: Insert at each position, of a node with others below it, into a node
// that is loose or not.
func TestInsert(t *testing.T) {
	for at := range 3 {
		d, m := family(t, 9)
		wants(t, "Insert", d.Insert(1, at, 5), api.OK)
		m.insert(1, at, 5)
		wants(t, "Insert", d.Insert(6, 0, 7), api.OK)
		m.insert(6, 0, 7)
		agree(t, d, m)
	}
	d, m := family(t, 9)
	wants(t, "Insert into a loose node", d.Insert(5, 1, 7), api.OK)
	m.insert(5, 1, 7)
	agree(t, d, m)
}

// P5.1: the errors of Move and Remove, of which the first counts.
func TestMoveAndRemoveErrors(t *testing.T) {
	d, m := family(t, 9)
	for _, c := range []struct {
		id, at int
		want   api.Errno
	}{
		{9, 0, api.ErrNode}, {-1, 0, api.ErrNode}, {8, -1, api.ErrNode}, {math.MinInt64, 0, api.ErrNode},
		{0, 0, api.ErrArg}, {5, 0, api.ErrArg}, {7, 0, api.ErrArg},
		{2, -1, api.ErrArg}, {2, 2, api.ErrArg}, {4, 2, api.ErrArg}, {1, 1, api.ErrArg}, {4, math.MaxInt64, api.ErrArg},
	} {
		wants(t, "Move", d.Move(c.id, c.at), c.want)
		agree(t, d, m)
	}
	for id, want := range map[int]api.Errno{9: api.ErrNode, 8: api.ErrNode, -1: api.ErrNode, math.MaxInt64: api.ErrNode, 0: api.ErrArg} {
		wants(t, "Remove", d.Remove(id), want)
		agree(t, d, m)
	}
}

// P5.1: Move from each position to each position.
func TestMove(t *testing.T) {
	for from := range 5 {
		for to := range 5 {
			d, m := arena.New(9), newModel(9)
			for i := range 5 {
				id, _ := d.Text("x")
				d.Insert(0, i, id)
				m.create(thing{text: true, say: "x"})
				m.insert(0, i, id)
			}
			wants(t, "Move", d.Move(from+1, to), api.OK)
			m.move(from+1, to)
			agree(t, d, m)
			if d.Index(from+1) != to {
				t.Errorf("Move from %d to %d leads to %d", from, to, d.Index(from+1))
			}
		}
	}
}

// P5.1: Remove takes everything below along, be the node loose or not, and
// numbers are not used again.
func TestRemove(t *testing.T) {
	for id := 1; id <= 7; id++ {
		d, m := family(t, 9)
		wants(t, "Remove", d.Remove(id), api.OK)
		m.remove(id)
		agree(t, d, m)
		wants(t, "Remove again", d.Remove(id), api.ErrNode)
		for want := 8; d.Room() > 0; want++ {
			if got := element(t, d, "p"); got != want {
				t.Errorf("the next number is %d, wanted %d", got, want)
			}
		}
	}
}

// P5.1: the errors of each change, of which the first counts.
func TestChangeErrors(t *testing.T) {
	d, m := family(t, 9)
	for w := range changes {
		for _, name := range []string{"a", "", "1a", strings.Repeat("a", 17)} {
			for _, c := range []struct {
				id   int
				want api.Errno
			}{
				{9, api.ErrNode}, {-1, api.ErrNode}, {0, api.ErrArg}, {3, api.ErrKind}, {7, api.ErrKind}, {2, api.ErrForm}, {5, api.ErrForm},
			} {
				want := c.want
				if w == setText && c.want == api.ErrKind {
					continue
				}
				if w == setText && c.want == api.ErrForm {
					want = api.ErrKind
				}
				if want == api.ErrForm && name == "a" {
					continue
				}
				if got := change(d, w, c.id, name, "v", 1); got != want {
					t.Errorf("change %d of node %d by %q is %d, wanted %d", w, c.id, name, got, want)
				}
				agree(t, d, m)
			}
		}
	}
	for _, w := range []what{dropAttr, dropStyle, dropClass} {
		wants(t, "a drop of nothing", change(d, w, 2, "a", "", 0), api.ErrArg)
	}
	wants(t, "AddClass", d.AddClass(2, "a"), api.OK)
	wants(t, "AddClass again", d.AddClass(2, "a"), api.ErrArg)
	wants(t, "DropAttr of a class", d.DropAttr(2, "a"), api.ErrArg)
	wants(t, "DropStyle of a class", d.DropStyle(2, "a"), api.ErrArg)
}

// P5.1: what each change makes of a node; a class is appended, a style limited.
func TestChanges(t *testing.T) {
	d, m := family(t, 9)
	for i, c := range []struct {
		w       what
		id      int
		name, v string
		n       int
	}{
		{w: setTag, id: 2, name: "t-x"}, {w: setText, id: 3, v: "'\xff"}, {w: setText, id: 7},
		{w: addClass, id: 2, name: "b"}, {w: addClass, id: 2, name: "a"}, {w: addClass, id: 2, name: "t-x"}, {w: addClass, id: 2, name: "c"},
		{w: dropClass, id: 2, name: "a"}, {w: addClass, id: 2, name: "a"}, {w: dropClass, id: 2, name: "b"},
		{w: setAttr, id: 5, name: "b", v: "1"}, {w: setAttr, id: 5, name: "a"}, {w: setAttr, id: 5, name: "t-x", v: "'( )\x00"},
		{w: setAttr, id: 5, name: "b", v: strings.Repeat("x", 99)}, {w: dropAttr, id: 5, name: "a"}, {w: setAttr, id: 5, name: "aa", v: "2"},
		{w: setStyle, id: 6, name: "w", n: 1 << 40}, {w: setStyle, id: 6, name: "h", n: math.MinInt64}, {w: setStyle, id: 6, name: "t-dx"},
		{w: setStyle, id: 6, name: "w", n: -5}, {w: dropStyle, id: 6, name: "h"}, {w: setStyle, id: 6, name: "a", n: math.MaxInt32},
		{w: setStyle, id: 6, name: "b", n: math.MaxInt32 + 1}, {w: setStyle, id: 6, name: "c", n: math.MinInt32 - 1},
		{w: setAttr, id: 6, name: "w", v: "7"}, {w: addClass, id: 6, name: "w"}, {w: setTag, id: 6, name: "em"},
	} {
		got, want := change(d, c.w, c.id, c.name, c.v, c.n), m.change(c.w, c.id, c.name, c.v, c.n)
		if got != api.OK || want != api.OK {
			t.Errorf("change %d is %d", i, got)
		}
		agree(t, d, m)
	}
	n, _ := d.Get(2)
	if !slices.Equal(n.Classes, []string{"t-x", "c", "a"}) {
		t.Errorf("the classes are %v", n.Classes)
	}
}

// choose returns one of the elements.
func choose[T any](r *rand.Rand, l ...T) T { return l[r.Intn(len(l))] }

// step performs the same call on the Dom and on the model.
func step(t *testing.T, r *rand.Rand, d *arena.Dom, m *model) {
	t.Helper()
	one, two, at := r.Intn(d.Next()+2)-1, r.Intn(d.Next()+2)-1, r.Intn(6)-1
	name := choose(r, "a", "b", "c", "t-x", "", "A", "abcdefghijklmnopq")
	got, want := api.OK, api.OK
	id, should := 0, 0
	switch kind := r.Intn(20); {
	case kind < 3:
		id, got = d.Element(name)
		should, want = m.create(thing{tag: name})
	case kind < 5:
		id, got = d.Text(name)
		should, want = m.create(thing{text: true, say: name})
	case kind < 11:
		got, want = d.Insert(one, at, two), m.insert(one, at, two)
	case kind < 13:
		got, want = d.Move(one, at), m.move(one, at)
	case kind < 14:
		got, want = d.Remove(one), m.remove(one)
	default:
		w, v, n := what(r.Intn(int(changes))), choose(r, "", "x", "y"), choose(r, 0, -1, 1<<40)
		got, want = change(d, w, one, name, v, n), m.change(w, one, name, v, n)
	}
	if id != should || got != want {
		t.Fatalf("a call is %d %d, wanted %d %d", id, got, should, want)
	}
}

// P5.1: each method after any calls, and Clone, after which neither Dom knows of
// what happens to the other one.
func TestAnyCalls(t *testing.T) {
	for seed := range 60 {
		r := rand.New(rand.NewSource(int64(seed)))
		most := choose(r, -1, 1, 3, 8, 20)
		d, m := arena.New(most), newModel(most)
		for range 120 {
			step(t, r, d, m)
			agree(t, d, m)
		}
		c, n := d.Clone(), &model{most: m.most}
		for _, x := range m.nodes {
			x.attrs, x.styles = maps.Clone(x.attrs), maps.Clone(x.styles)
			n.nodes = append(n.nodes, x)
		}
		for range 60 {
			step(t, r, c, n)
			agree(t, c, n)
			agree(t, d, m)
			step(t, r, d, m)
			agree(t, c, n)
			agree(t, d, m)
		}
	}
}

// tree checks what P5.2 says, by Get alone.
func tree(t *testing.T, d *arena.Dom) {
	t.Helper()
	kidOf := map[int]int{}
	for p := range d.Next() {
		n, is := d.Get(p)
		if is != (n.Kind != 0) || is && n.ID != p {
			t.Fatalf("node %d is %+v %v", p, n, is)
		}
		for _, kid := range n.Kids {
			k, there := d.Get(kid)
			if _, already := kidOf[kid]; already || !there || k.Parent != p || n.Kind != arena.Element {
				t.Fatalf("node %d is a kid of %d: %+v", kid, p, k)
			}
			kidOf[kid] = p
		}
	}
	for id := range d.Next() {
		n, is := d.Get(id)
		if p, kid := kidOf[id]; is && (kid != (n.Parent >= 0) || kid && p != n.Parent || !kid && n.Parent != -1) {
			t.Fatalf("node %d has the parent %d, and is a kid of %d", id, n.Parent, p)
		}
		steps := 0
		for up := n; is && up.Parent >= 0; steps++ {
			if steps > d.Next() || up.ID == 0 {
				t.Fatalf("node %d is below itself, or the root is below something", id)
			}
			up, _ = d.Get(up.Parent)
		}
	}
}

// P5.2: TREE, after any calls.
func TestTree(t *testing.T) {
	for seed := range 100 {
		r := rand.New(rand.NewSource(int64(seed)))
		d, used := arena.New(12), map[int]bool{0: true}
		for range 300 {
			one, two, at := r.Intn(d.Next()), r.Intn(d.Next()), r.Intn(3)
			if len(used) > 3 && r.Intn(2) == 0 {
				one, two = d.Next()-1-r.Intn(3), d.Next()-1-r.Intn(3)
			}
			switch r.Intn(8) {
			case 0:
				if id, e := d.Element("p"); e == api.OK && used[id] {
					t.Fatalf("the number %d is used twice", id)
				} else if e == api.OK {
					used[id] = true
				}
			case 1:
				if id, e := d.Text(""); e == api.OK && used[id] {
					t.Fatalf("the number %d is used twice", id)
				} else if e == api.OK {
					used[id] = true
				}
			case 2:
				d.Move(one, at)
			case 3:
				if r.Intn(3) == 0 {
					d.Remove(one)
				}
			default:
				d.Insert(one, at, two)
			}
			tree(t, d)
		}
	}
}

// write overwrites all that a node has in lists, and what lies behind them.
func write(n arena.Node) {
	for i, l := 0, n.Classes[:cap(n.Classes)]; i < len(l); i++ {
		l[i] = "written"
	}
	for i, l := 0, n.Kids[:cap(n.Kids)]; i < len(l); i++ {
		l[i] = -7
	}
	for i, l := 0, n.Attrs[:cap(n.Attrs)]; i < len(l); i++ {
		l[i].Name, l[i].Value = "written", "written"
	}
	for i, l := 0, n.Styles[:cap(n.Styles)]; i < len(l); i++ {
		l[i].Name, l[i].Value = "written", -7
	}
}

// Rule 5: what Get and Order return is new memory, and stays as it was.
func TestMemory(t *testing.T) {
	d, m := family(t, 9)
	for _, name := range []string{"b", "a", "c"} {
		for _, w := range []what{addClass, setAttr, setStyle} {
			change(d, w, 1, name, "v", 3)
			m.change(w, 1, name, "v", 3)
		}
	}
	for id := range 8 {
		n, _ := d.Get(id)
		write(n)
		write(n)
		agree(t, d, m)
		c := d.Clone()
		k, _ := c.Get(id)
		write(k)
		agree(t, d, m)
	}
	order := d.Order()
	for i, l := 0, order[:cap(order)]; i < len(l); i++ {
		l[i] = 3
	}
	agree(t, d, m)
	before, _ := d.Get(1)
	want, _ := m.node(1)
	order = d.Order()
	for _, name := range []string{"b", "c"} {
		d.DropClass(1, name)
		d.DropAttr(1, name)
		d.DropStyle(1, name)
	}
	d.SetAttr(1, "a", "w")
	d.SetStyle(1, "a", 4)
	d.Move(4, 0)
	d.Remove(2)
	d.Insert(1, 0, 7)
	if !alike(before, want) || !slices.Equal(order, m.below(0)) {
		t.Errorf("what was returned became %+v and %v", before, order)
	}
}

// P1: a zero Dom is one with only the root, and the least room there may be.
func TestZero(t *testing.T) {
	agree(t, &arena.Dom{}, newModel(0))
	agree(t, (&arena.Dom{}).Clone(), newModel(0))
	for w := range changes {
		d := &arena.Dom{}
		wants(t, "a change of the root", change(d, w, 0, "a", "a", 0), api.ErrArg)
		wants(t, "a change of nothing", change(d, w, 1, "a", "a", 0), api.ErrNode)
		agree(t, d, newModel(0))
	}
	d := &arena.Dom{}
	wants(t, "Insert", d.Insert(0, 0, 0), api.ErrArg)
	wants(t, "Insert", d.Insert(0, 0, 1), api.ErrNode)
	wants(t, "Move", d.Move(0, 0), api.ErrArg)
	wants(t, "Remove", d.Remove(0), api.ErrArg)
	wants(t, "Remove", d.Remove(1), api.ErrNode)
	if element(t, d, "p") != 1 || d.Insert(0, 0, 1) != api.OK || d.Room() != 0 || !slices.Equal(d.Order(), []int{0, 1}) {
		t.Error("a zero Dom takes no node")
	}
	wants(t, "Remove", d.Remove(1), api.OK)
	if text(t, d, "x") != 2 || d.Next() != 3 {
		t.Error("a number is used twice")
	}
}

// P1: as many nodes as permitted, side by side or below one another, in either
// order.
func TestMany(t *testing.T) {
	const most = 65536
	for _, parent := range []func(int) int{
		func(int) int { return 0 },
		func(id int) int { return id - 1 },
		func(id int) int { return (id - 1) / 2 },
	} {
		for _, up := range []bool{false, true} {
			d := arena.New(most)
			for range most {
				element(t, d, "p")
			}
			for i := range most {
				id := i + 1
				if up {
					id = most - i
				}
				wants(t, "Insert", d.Insert(parent(id), 0, id), api.OK)
			}
			if _, e := d.Text(""); e != api.ErrNodes || len(d.Order()) != most+1 || !d.Within(most, 0) || d.Within(0, most) {
				t.Fatal("not all of them are there")
			}
			c := d.Clone()
			wants(t, "Remove", d.Remove(1), api.OK)
			if n := len(d.Order()); n != d.Count()+1 || d.Room() != most-d.Count() || len(c.Order()) != most+1 {
				t.Errorf("%d nodes are left", n)
			}
		}
	}
}
