package still_test

import (
	"math"
	"math/rand"
	"slices"
	"strconv"
	"strings"
	"testing"

	"scrim/api"
	"scrim/arena"
	"scrim/props"
	"scrim/still"
	"scrim/view"
)

func text(id int, s string) still.Tree { return still.Tree{ID: id, Kind: arena.Text, Text: s} }

func element(id int, tag string, kids ...still.Tree) still.Tree {
	return still.Tree{ID: id, Kind: arena.Element, Tag: tag, Kids: kids}
}

// as is t after a change.
func as(t still.Tree, change func(*still.Tree)) still.Tree {
	t = deepCopy(t)
	change(&t)
	return t
}

func ghost(t still.Tree) still.Tree {
	return as(t, func(t *still.Tree) { t.Attrs = append(t.Attrs, props.Pair[string]{Name: "t-ghost"}) })
}

// built is a Dom below whose root there is t, and t with the IDs that it has
// there. Its nodes are created from the last one on, so that the order of the
// tree is not that of the numbers.
func built(t *testing.T, tree still.Tree) (*arena.Dom, still.Tree) {
	t.Helper()
	d := arena.New(5000)
	tree = create(t, d, tree)
	if e := d.Insert(0, 0, tree.ID); e != api.OK {
		t.Fatalf("Insert: %d", e)
	}
	return d, tree
}

func create(t *testing.T, d *arena.Dom, n still.Tree) still.Tree {
	t.Helper()
	kids := slices.Clone(n.Kids)
	n.Kids = nil
	for _, kid := range slices.Backward(kids) {
		n.Kids = slices.Insert(n.Kids, 0, create(t, d, kid))
	}
	var e api.Errno
	if n.Kind == arena.Text {
		n.ID, e = d.Text(n.Text)
	} else {
		n.ID, e = d.Element(n.Tag)
	}
	for i, kid := range n.Kids {
		e = max(e, d.Insert(n.ID, i, kid.ID))
	}
	var classes []string
	for _, c := range n.Classes {
		if !slices.Contains(classes, c) {
			classes = append(classes, c)
			e = max(e, d.AddClass(n.ID, c))
		}
	}
	n.Classes = classes
	for _, p := range n.Attrs {
		e = max(e, d.SetAttr(n.ID, p.Name, p.Value))
	}
	for _, p := range n.Styles {
		e = max(e, d.SetStyle(n.ID, p.Name, p.Value))
	}
	if e != api.OK {
		t.Fatalf("building %+v: %d", n, e)
	}
	return n
}

// P9.1: Of a view, whose nodes all become Elements and Texts.
func TestOf(t *testing.T) {
	hi := view.Node{Kind: view.Text, Text: "hi"}
	for i, c := range []struct {
		n    view.Node
		want still.Tree
	}{
		{hi, text(0, "hi")}, {view.Node{Kind: view.Text}, text(0, "")},
		{view.Node{Kind: view.Element, Tag: "p", Key: "k"}, element(0, "p")},
		{view.Node{Kind: view.Group, Tag: "ul", Opts: view.Options{Enter: 3, Moves: true}, Kids: []view.Node{{Kind: view.Element, Tag: "li", Key: "a"}}}, element(0, "ul", element(0, "li"))},
		{view.Node{Kind: view.Slot, Tag: "div", Kids: []view.Node{{Kind: view.Element, Tag: "p", Key: "a", Kids: []view.Node{hi}}}}, element(0, "div", element(0, "p", text(0, "hi")))},
		{view.Node{Kind: view.Element, Tag: "p", Kids: []view.Node{{Kind: view.Text}, hi, {Kind: view.Text}, hi, {Kind: view.Text}}}, element(0, "p", text(0, "hihi"))},
		{view.Node{Kind: view.Element, Tag: "p", Kids: []view.Node{{Kind: view.Text}}}, element(0, "p")},
		{
			view.Node{Kind: view.Element, Tag: "p", Classes: []string{"b", "a", "b"}, Attrs: pairs("b a b", "1", "2", "3"), Styles: pairs("b a b", 1, 2, 3)},
			still.Tree{Kind: arena.Element, Tag: "p", Classes: []string{"b", "a"}, Attrs: pairs("a b", "2", "3"), Styles: pairs("a b", 2, 3)},
		},
		// And some that are not valid.
		{view.Node{}, element(0, "")}, {view.Node{Kind: 9, Tag: "P", Key: "k"}, element(0, "P")}, {view.Node{Kind: -1, Kids: []view.Node{{}, hi}}, element(0, "", element(0, ""), text(0, "hi"))},
		{view.Node{Kind: view.Text, Text: "a", Tag: "p", Key: "k", Classes: []string{"a"}, Attrs: pairs("a", ""), Styles: pairs("a", 1), Kids: []view.Node{hi}}, text(0, "a")},
		{view.Node{Kind: view.Element, Tag: "p", Text: "a", Classes: []string{"t-x"}, Attrs: pairs("t-ghost", "")}, still.Tree{Kind: arena.Element, Tag: "p", Classes: []string{"t-x"}, Attrs: pairs("t-ghost", "")}},
	} {
		if got := still.Of(c.n); !alike(got, c.want) {
			t.Errorf("%d: %+v, wanted %+v", i, got, c.want)
		}
	}
}

// P9.1, P9.2: Of many valid views, against the model; Erase leaves it as it is.
func TestOfAgainstModel(t *testing.T) {
	r := rand.New(rand.NewSource(9))
	for range 10000 {
		n := someView(r, 1+r.Intn(4), "")
		if e := n.Check(20, 4096); e != api.OK {
			t.Fatalf("%+v is not valid: %d", n, e)
		}
		got := still.Of(n)
		if want := plain(n); !alike(got, want) {
			t.Fatalf("Of %+v is %+v, wanted %+v", n, got, want)
		}
		if left, stays := got.Erase(); !stays || !alike(left, got) {
			t.Fatalf("Erase of %+v is %+v, %v", got, left, stays)
		}
		if again := still.Of(n.Normal()); !alike(again, got) {
			t.Fatalf("Of Normal of %+v is %+v, wanted %+v", n, again, got)
		}
	}
}

// P9.1: Read of each node of many Doms, whose nodes are loose or not.
func TestRead(t *testing.T) {
	r := rand.New(rand.NewSource(10))
	for range 2000 {
		d, want := built(t, someTree(r, 1+r.Intn(4), true))
		d.Element("loose")
		want = formed(want)
		for _, n := range flat(want) {
			if got, e := still.Read(d, n.ID); e != api.OK || !alike(got, n) {
				t.Fatalf("Read is %+v %d, wanted %+v", got, e, n)
			}
		}
		if got, e := still.Read(d, 0); e != api.OK || !alike(got, element(0, "root", want)) {
			t.Fatalf("Read of the root is %+v %d", got, e)
		}
		if got, e := still.Read(d, d.Next()-1); e != api.OK || !alike(got, element(d.Next()-1, "loose")) {
			t.Fatalf("Read of a loose node is %+v %d", got, e)
		}
		d.Remove(want.ID)
		for _, id := range []int{want.ID, flat(want)[r.Intn(want.Size())].ID, d.Next(), -1, math.MaxInt, math.MinInt} {
			if got, e := still.Read(d, id); e != api.ErrNode || !alike(got, still.Tree{}) {
				t.Fatalf("Read of no node is %+v %d", got, e)
			}
		}
	}
	if got, e := still.Read(&arena.Dom{}, 0); e != api.OK || !alike(got, element(0, "root")) {
		t.Errorf("Read of a zero Dom is %+v %d", got, e)
	}
	if got, e := still.Read(&arena.Dom{}, 1); e != api.ErrNode || !alike(got, still.Tree{}) {
		t.Errorf("Read of a zero Dom is %+v %d", got, e)
	}
}

// P9.1: what Erase leaves of one node, and of its kids.
func TestErase(t *testing.T) {
	marked := still.Tree{
		ID: 7, Kind: arena.Element, Tag: "t-x", Classes: []string{"t-", "b", "t-move", "a", "b", "tt-"},
		Attrs: pairs("a t-a t-ghosts ghost", "t-ghost", "1", "2", "3"), Styles: pairs("t-dx w t-ghost t", 1, 2, 3, 4),
	}
	clean := still.Tree{
		ID: 7, Kind: arena.Element, Tag: "t-x", Classes: []string{"b", "a", "b", "tt-"},
		Attrs: pairs("a ghost", "t-ghost", "3"), Styles: pairs("t w", 4, 2),
	}
	for i, c := range []struct{ t, want still.Tree }{
		{marked, clean}, {element(1, "p", marked, text(2, "t-ghost"), marked), element(1, "p", clean, text(2, "t-ghost"), clean)},
		{element(1, "p", ghost(marked)), element(1, "p")}, {element(1, "p", ghost(element(2, "p", marked)), marked, ghost(text(3, "x"))), element(1, "p", clean)},
		{element(1, "p", element(2, "p", element(3, "p", ghost(marked), marked))), element(1, "p", element(2, "p", element(3, "p", clean)))},
		{element(1, "p", text(2, "a"), ghost(element(3, "p")), text(4, "b")), element(1, "p", text(2, "a"), text(4, "b"))},
		{text(3, "t-ghost"), text(3, "t-ghost")}, {text(0, ""), text(0, "")}, {still.Tree{}, still.Tree{}},
		{as(element(1, "p"), func(n *still.Tree) { n.Attrs = pairs("t-ghosts t-ghos ghost", "", "", "") }), as(element(1, "p"), func(n *still.Tree) { n.Attrs = pairs("ghost", "") })},
		{as(element(1, "p"), func(n *still.Tree) { n.Styles, n.Classes = pairs("t-ghost", 0), []string{"t-ghost"} }), element(1, "p")},
		// A kid that is no node of layer 5, but is erased all the same.
		{still.Tree{Kind: 5, Text: "x", Classes: []string{"t-a"}, Kids: []still.Tree{ghost(still.Tree{}), {Kind: arena.Text, Kids: []still.Tree{ghost(text(1, ""))}}}}, still.Tree{Kind: 5, Text: "x", Kids: []still.Tree{text(0, "")}}},
	} {
		if got, stays := c.t.Erase(); !stays || !alike(got, c.want) {
			t.Errorf("%d: %+v %v, wanted %+v", i, got, stays, c.want)
		}
		if got, stays := ghost(c.t).Erase(); stays || !alike(got, still.Tree{}) {
			t.Errorf("%d as a ghost: %+v %v", i, got, stays)
		}
	}
	first := as(element(1, "p"), func(n *still.Tree) { n.Attrs = pairs("t-z t-ghost t-ghost a", "", "1", "2", "") })
	if got, stays := first.Erase(); stays || !alike(got, still.Tree{}) {
		t.Errorf("a ghost among other attributes: %+v %v", got, stays)
	}
}

// P9.1, P9.2: Erase of many trees, against words left out of what is shown of
// them; Erase of what is left is the same.
func TestEraseAgainstModel(t *testing.T) {
	r, ghosts := rand.New(rand.NewSource(11)), 0
	for range 20000 {
		tree := someTree(r, 1+r.Intn(4), true)
		before := deepCopy(tree)
		got, stays := tree.Erase()
		want := erased(tree.Show(true))
		switch {
		case !alike(tree, before):
			t.Fatalf("%+v was changed from %+v", tree, before)
		case stays != (want != "") || !stays && !alike(got, still.Tree{}):
			t.Fatalf("Erase of %s is %+v %v", tree.Show(true), got, stays)
		case !stays:
			ghosts++
			continue
		case got.Show(true) != want || !alike(got, parsed(want)):
			t.Fatalf("Erase of %s is %s, wanted %s", tree.Show(true), got.Show(true), want)
		}
		if again, stays := got.Erase(); !stays || !alike(again, got) {
			t.Fatalf("Erase of %s is %s %v", got.Show(true), again.Show(true), stays)
		}
	}
	if ghosts < 100 {
		t.Errorf("only %d ghosts", ghosts)
	}
}

// P9.1: the document's example, and each part of what is shown.
func TestShow(t *testing.T) {
	whole := still.Tree{
		ID: 3, Kind: arena.Element, Tag: "p", Text: "x", Classes: []string{"b", "a", "b"}, Attrs: pairs("b a b c", "9", "=", "1", ""),
		Styles: pairs("b a b c", 9, -5, math.MaxInt, 0), Kids: []still.Tree{text(-4, "a b"), element(5, "q"), text(6, "")},
	}
	for i, c := range []struct {
		t           still.Tree
		bare, marks string
	}{
		{element(1, "p", text(2, "hi")), "(p 'hi')", "(1:p 2:'hi')"}, {text(0, ""), "''", "0:''"}, {text(math.MinInt, " a "), "' a '", "-9223372036854775808:' a '"},
		{element(0, "root"), "(root)", "(0:root)"}, {element(math.MaxInt, "p", element(0, "q"), text(0, "")), "(p (q) '')", "(9223372036854775807:p (0:q) 0:'')"},
		{whole, "(p .b .a .b @a== @b=1 @c= a=-5 b=9223372036854775807 c=0 'a b' (q) '')", "(3:p .b .a .b @a== @b=1 @c= a=-5 b=9223372036854775807 c=0 -4:'a b' (5:q) 6:'')"},
		{as(text(1, "a"), func(n *still.Tree) { n.Tag, n.Classes, n.Kids = "p", []string{"a"}, []still.Tree{text(2, "b")} }), "'a'", "1:'a'"},
		{still.Tree{}, "()", "(0:)"}, {still.Tree{ID: 2, Kind: 9, Tag: "P Q"}, "(P Q)", "(2:P Q)"}, {text(1, "it's\xff"), "'it's\xff'", "1:'it's\xff'"},
	} {
		if got := c.t.Show(false); got != c.bare {
			t.Errorf("%d: %s, wanted %s", i, got, c.bare)
		}
		if got := c.t.Show(true); got != c.marks {
			t.Errorf("%d: %s, wanted %s", i, got, c.marks)
		}
	}
}

// P9.3: what is shown tells the tree, so that another tree is shown differently.
func TestShownIsRead(t *testing.T) {
	r := rand.New(rand.NewSource(12))
	trees := map[string]still.Tree{}
	var last still.Tree
	for range 20000 {
		tree := someTree(r, r.Intn(4), r.Intn(2) > 0)
		bare, marks := tree.Show(false), tree.Show(true)
		if got := parsed(marks); !alike(got, formed(tree)) {
			t.Fatalf("%s tells %+v, and not %+v", marks, got, tree)
		}
		if got := parsed(bare); !still.Same(got, tree) || len(slices.Compact(got.IDs())) != 1 {
			t.Fatalf("%s tells %+v, and not %+v", bare, got, tree)
		}
		if twin, there := trees[bare]; there && !still.Same(twin, tree) {
			t.Fatalf("%+v and %+v are shown as %s", twin, tree, bare)
		}
		if still.Same(last, tree) != (last.Show(false) == bare) {
			t.Fatalf("Same of %+v and %+v is %v", last, tree, still.Same(last, tree))
		}
		trees[bare], last = tree, tree
	}
}

// P9.1: Same looks at everything except IDs; Maps count without their form, lists
// with it.
func TestSame(t *testing.T) {
	whole := still.Tree{
		ID: 1, Kind: arena.Element, Tag: "p", Text: "x", Classes: []string{"a", "b"}, Attrs: pairs("a b", "1", "2"), Styles: pairs("a b", 1, 2),
		Kids: []still.Tree{text(2, "x"), element(3, "q", text(4, "y"))},
	}
	same := []func(*still.Tree){
		func(n *still.Tree) {}, func(n *still.Tree) { n.ID = -1 }, func(n *still.Tree) { n.Kids[1].Kids[0].ID = 1 },
		func(n *still.Tree) { n.Attrs = pairs("b b a", "9", "2", "1") }, func(n *still.Tree) { n.Styles = pairs("b a a", 2, 3, 1) },
		func(n *still.Tree) { n.Kids[0].Classes, n.Kids[0].Kids = []string{}, []still.Tree{} },
		func(n *still.Tree) { n.Kids[0].Attrs, n.Kids[0].Styles = props.Map[string]{}, props.Map[int]{} },
	}
	other := []func(*still.Tree){
		func(n *still.Tree) { n.Kind = arena.Text }, func(n *still.Tree) { n.Kind = 0 }, func(n *still.Tree) { n.Tag = "q" }, func(n *still.Tree) { n.Text = "" },
		func(n *still.Tree) { n.Classes = []string{"b", "a"} }, func(n *still.Tree) { n.Classes = []string{"a", "b", "a"} }, func(n *still.Tree) { n.Classes = nil },
		func(n *still.Tree) { n.Attrs[0].Value = "" }, func(n *still.Tree) { n.Attrs = n.Attrs[:1] }, func(n *still.Tree) { n.Attrs[0].Name = "c" },
		func(n *still.Tree) { n.Styles[0].Value = 0 }, func(n *still.Tree) { n.Styles = nil }, func(n *still.Tree) { n.Styles[1].Name = "c" },
		func(n *still.Tree) { n.Kids = n.Kids[:1] }, func(n *still.Tree) { n.Kids = append(n.Kids, text(0, "")) },
		func(n *still.Tree) { n.Kids[1].Kids[0].Text = "z" }, func(n *still.Tree) { n.Kids[1].Tag = "p" }, func(n *still.Tree) { slices.Reverse(n.Kids) },
	}
	for i, change := range append(slices.Clone(same), other...) {
		n := as(whole, change)
		if want := i < len(same); still.Same(n, whole) != want || still.Same(whole, n) != want || !still.Same(n, n) {
			t.Errorf("change %d: %v, wanted %v", i, !want, want)
		}
	}
}

// P9.1: IDs, Find and Size of many trees, in which IDs occur several times.
func TestFindAgainstModel(t *testing.T) {
	r := rand.New(rand.NewSource(13))
	for range 10000 {
		tree := someTree(r, 1+r.Intn(4), true)
		nodes := flat(tree)
		var ids []int
		for _, n := range nodes {
			ids = append(ids, n.ID)
		}
		if got := tree.IDs(); !slices.Equal(got, ids) || tree.Size() != len(nodes) {
			t.Fatalf("%s: %v and %d, wanted %v", tree.Show(true), got, tree.Size(), ids)
		}
		for _, id := range append(ids, -1, 0, 1, 51, math.MinInt, math.MaxInt) {
			at := slices.Index(ids, id)
			got, there := tree.Find(id)
			if there != (at >= 0) || !there && !alike(got, still.Tree{}) || there && !alike(got, formed(nodes[at])) {
				t.Fatalf("Find(%d) in %s is %+v %v", id, tree.Show(true), got, there)
			}
		}
	}
	var zero still.Tree
	if got, there := zero.Find(0); !there || !alike(got, zero) || zero.Size() != 1 || !slices.Equal(zero.IDs(), []int{0}) {
		t.Errorf("the zero Tree: %+v %v %d %v", got, there, zero.Size(), zero.IDs())
	}
}

// P1: nothing that is passed is changed, not even the spare capacity of a list,
// and no memory is shared with it or with another result.
func TestMemory(t *testing.T) {
	spare := func() still.Tree {
		n := element(1, "p", text(2, "a"), as(element(3, "q"), func(n *still.Tree) { n.Classes = []string{"x"} }), ghost(element(4, "q")))
		n.Classes = append(make([]string, 0, 9), "b", "t-x", "a")
		n.Attrs = append(make(props.Map[string], 0, 9), pairs("b t-x a", "1", "2", "3")...)
		n.Styles = append(make(props.Map[int], 0, 9), pairs("b t-x a", 1, 2, 3)...)
		n.Kids = slices.Grow(n.Kids, 9)
		return n
	}
	n := spare()
	left, _ := n.Erase()
	found, _ := n.Find(1)
	inner, _ := n.Find(3)
	ids := n.IDs()
	n.Show(true)
	still.Same(n, left)
	n.Size()
	if !alike(n, spare()) || n.Classes[:4][3] != "" || n.Attrs[:4][3].Name != "" || n.Styles[:4][3].Name != "" || n.Kids[:4][3].Kind != 0 {
		t.Errorf("what was passed is %+v", n)
	}
	scribble(n)
	if !alike(found, formed(spare())) || !slices.Equal(ids, []int{1, 2, 3, 4}) || !slices.Equal(inner.Classes, []string{"x"}) {
		t.Errorf("a change elsewhere made %+v", found)
	}
	scribble(found)
	want, _ := spare().Erase()
	if !alike(left, want) || len(left.Kids) != 2 || left.Kids[1].Classes[0] != "x" {
		t.Errorf("a change elsewhere made %+v", left)
	}
}

// P1: the same of Of and Read, whose results share nothing with a view or a Dom.
func TestMemoryOfViewsAndDoms(t *testing.T) {
	r := rand.New(rand.NewSource(14))
	for range 500 {
		n := someView(r, 3, "")
		want := plain(n)
		first := still.Of(n)
		scribble(first)
		second := still.Of(n)
		if !alike(second, want) {
			t.Fatalf("a change elsewhere made %+v of %+v", second, want)
		}
		for i := range n.Classes {
			n.Classes[i], n.Attrs[i].Name, n.Styles[i].Name = "zz", "zz", "zz"
		}
		clear(n.Kids)
		if !alike(second, want) {
			t.Fatalf("a change of the view made %+v of %+v", second, want)
		}
		d, _ := built(t, want)
		before := d.Clone()
		got, _ := still.Read(d, 0)
		want = deepCopy(got)
		scribble(got)
		for _, id := range before.Order() {
			x, _ := still.Read(d, id)
			y, _ := still.Read(before, id)
			if !alike(x, y) {
				t.Fatalf("a change elsewhere made %+v of %+v", x, y)
			}
		}
		got, _ = still.Read(d, 0)
		d.Remove(got.Kids[0].ID)
		if !alike(got, want) {
			t.Fatalf("a change of the Dom made %+v of %+v", got, want)
		}
	}
}

// P1: everything ends without a panic for the deepest tree and a long list.
func TestExtremes(t *testing.T) {
	const deep = 1 << 16
	n := view.Node{Kind: view.Element, Tag: "p"}
	d := arena.New(deep)
	d.Element("p")
	for id := 2; id <= deep; id++ {
		n = view.Node{Kind: view.Element, Tag: "p", Kids: []view.Node{n}}
		d.Element("p")
		d.Insert(id, 0, id-1)
	}
	chain := still.Of(n)
	read, e := still.Read(d, deep)
	if e != api.OK || !still.Same(chain, read) || chain.Size() != deep || len(read.IDs()) != deep {
		t.Errorf("the deepest tree: %d %d %d", e, chain.Size(), len(read.IDs()))
	}
	if last, there := read.Find(1); !there || last.Size() != 1 {
		t.Errorf("the last node: %v", there)
	}
	if all, there := read.Find(deep); !there || all.Size() != deep {
		t.Errorf("the first node: %v", there)
	}
	if left, stays := read.Erase(); !stays || !still.Same(left, chain) {
		t.Error("Erase of the deepest tree")
	}
	if s := chain.Show(false); s != strings.Repeat("(p ", deep-1)+"(p"+strings.Repeat(")", deep) {
		t.Errorf("Show of the deepest tree has %d bytes", len(s))
	}
	wide := element(0, "p")
	for i := range 100000 {
		wide.Kids = append(wide.Kids, text(i+1, strconv.Itoa(i)))
	}
	if got, there := wide.Find(100000); wide.Size() != 100001 || !there || got.Text != "99999" || len(wide.Show(true)) < 1000000 {
		t.Error("a long list of kids")
	}
}
