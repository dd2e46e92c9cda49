package view_test

import (
	"math"
	"math/rand"
	"slices"
	"strings"
	"testing"

	"scrim/api"
	"scrim/props"
	"scrim/view"
)

func text(s string) view.Node { return view.Node{Kind: view.Text, Text: s} }

func element(kids ...view.Node) view.Node {
	return view.Node{Kind: view.Element, Tag: "p", Kids: kids}
}

// keyed is an Element as a Group or Slot has it.
func keyed(key string, kids ...view.Node) view.Node {
	return view.Node{Kind: view.Element, Tag: "li", Key: key, Kids: kids}
}

func group(kids ...view.Node) view.Node { return view.Node{Kind: view.Group, Tag: "ul", Kids: kids} }

func slot(kids ...view.Node) view.Node { return view.Node{Kind: view.Slot, Tag: "ul", Kids: kids} }

// chain is as many Elements within one another.
func chain(long int) view.Node {
	n := element()
	for range long - 1 {
		n = element(n)
	}
	return n
}

// pairs are of names, which stand in one text, with a value for each.
func pairs[V comparable](names string, values ...V) props.Map[V] {
	var m props.Map[V]
	for i, name := range strings.Fields(names) {
		m = append(m, props.Pair[V]{Name: name, Value: values[i]})
	}
	return m
}

// as is n after a change.
func as(n view.Node, change func(*view.Node)) view.Node {
	change(&n)
	return n
}

func wants(t *testing.T, what string, n view.Node, want api.Errno) {
	t.Helper()
	if got := n.Check(20, 4096); got != want {
		t.Errorf("%s: %d, wanted %d", what, got, want)
	}
	if got := checked(n, 20, 4096); got != want {
		t.Errorf("%s: the model says %d, wanted %d", what, got, want)
	}
}

// P7.1: the kinds and modes are numbers that other layers see.
func TestNumbers(t *testing.T) {
	got := []int{view.Text, view.Element, view.Group, view.Slot, view.Together, view.OutIn, view.InOut}
	if !slices.Equal(got, []int{1, 2, 3, 4, 0, 1, 2}) {
		t.Errorf("the kinds and modes are %v", got)
	}
}

// P7.1: views that may be, at the limits that the document names.
func TestCheckAccepts(t *testing.T) {
	for i, n := range []view.Node{
		text(""), text("hi"), text(strings.Repeat("~", 64)), text(" ()"), element(), group(), slot(),
		element(text(""), text("a"), text("b"), element(), element(), group(), slot()),
		element(keyed("a"), keyed("b"), keyed(""), keyed("")), group(keyed("a"), keyed("1-"), keyed("-")), slot(keyed("t-x")),
		{Kind: view.Element, Tag: "t-ghost", Key: "t-a"}, {Kind: view.Element, Tag: strings.Repeat("a", 16), Key: strings.Repeat("1", 16)},
		{Kind: view.Element, Tag: "p", Classes: []string{"a", "a", "t", "tt-", "a-t"}},
		{Kind: view.Element, Tag: "p", Attrs: props.Map[string]{{Name: "b"}, {Name: "b", Value: strings.Repeat("=", 32)}, {Name: "a", Value: "t-x"}}},
		{Kind: view.Element, Tag: "p", Styles: props.Map[int]{{Name: "b", Value: math.MaxInt32}, {Name: "b", Value: math.MinInt32}, {Name: "a"}}},
		{Kind: view.Element, Tag: "p", Classes: []string{}, Attrs: props.Map[string]{}, Styles: props.Map[int]{}, Kids: []view.Node{}},
		{Kind: view.Text, Classes: []string{}, Attrs: props.Map[string]{}, Styles: props.Map[int]{}, Kids: []view.Node{}},
		{Kind: view.Group, Tag: "p", Opts: view.Options{Enter: 1000, Leave: 1000, Move: 1000, Appear: true, Moves: true}},
		{Kind: view.Slot, Tag: "p", Opts: view.Options{Enter: 1000, Leave: 1000, Mode: view.InOut, Appear: true}},
		{Kind: view.Slot, Tag: "p", Opts: view.Options{Mode: view.OutIn}},
	} {
		wants(t, "view "+string(rune('a'+i)), n, api.OK)
	}
}

// P7.1: each case in which a node is invalid.
func TestCheckInvalid(t *testing.T) {
	for _, kind := range []int{math.MinInt, -1, 0, 5, math.MaxInt} {
		wants(t, "a kind", view.Node{Kind: kind, Tag: "p"}, api.ErrView)
	}
	for i, change := range []func(*view.Node){
		func(n *view.Node) { n.Tag = "p" }, func(n *view.Node) { n.Key = "a" }, func(n *view.Node) { n.Classes = []string{"a"} },
		func(n *view.Node) { n.Attrs = props.Map[string]{{Name: "a"}} }, func(n *view.Node) { n.Styles = props.Map[int]{{Name: "a"}} },
		func(n *view.Node) { n.Kids = []view.Node{text("")} }, func(n *view.Node) { n.Opts.Enter = 1 }, func(n *view.Node) { n.Opts.Leave = 1 },
		func(n *view.Node) { n.Opts.Move = 1 }, func(n *view.Node) { n.Opts.Mode = 1 }, func(n *view.Node) { n.Opts.Appear = true },
		func(n *view.Node) { n.Opts.Moves = true }, func(n *view.Node) { n.Text = "'" }, func(n *view.Node) { n.Text = "\x1f" },
		func(n *view.Node) { n.Text = "\x7f" }, func(n *view.Node) { n.Text = strings.Repeat("x", 65) },
	} {
		wants(t, "a Text "+string(rune('a'+i)), as(text("hi"), change), api.ErrView)
	}
	for i, change := range []func(*view.Node){
		func(n *view.Node) { n.Text = "x" }, func(n *view.Node) { n.Tag = "" }, func(n *view.Node) { n.Tag = "P" },
		func(n *view.Node) { n.Tag = "1a" }, func(n *view.Node) { n.Tag = strings.Repeat("a", 17) }, func(n *view.Node) { n.Key = "a b" },
		func(n *view.Node) { n.Key = strings.Repeat("1", 17) }, func(n *view.Node) { n.Classes = []string{"a", "1"} },
		func(n *view.Node) { n.Classes = []string{""} }, func(n *view.Node) { n.Attrs = props.Map[string]{{Name: "a"}, {Name: ""}} },
		func(n *view.Node) { n.Attrs = props.Map[string]{{Name: "a", Value: " "}} },
		func(n *view.Node) { n.Attrs = props.Map[string]{{Name: "a", Value: "("}, {Name: "a", Value: "1"}} },
		func(n *view.Node) { n.Attrs = props.Map[string]{{Name: "a", Value: strings.Repeat("x", 33)}} },
		func(n *view.Node) { n.Styles = props.Map[int]{{Name: "A"}} },
		func(n *view.Node) { n.Styles = props.Map[int]{{Name: "a", Value: math.MaxInt32 + 1}} },
		func(n *view.Node) {
			n.Styles = props.Map[int]{{Name: "a", Value: math.MinInt32 - 1}, {Name: "a", Value: 1}}
		},
	} {
		for _, n := range []view.Node{element(), group(), slot()} {
			wants(t, "a node "+string(rune('a'+i)), as(n, change), api.ErrView)
		}
	}
}

// P7.1: which options each kind may have, and how great.
func TestCheckOptions(t *testing.T) {
	for _, c := range []struct {
		o                    view.Options
		element, group, slot bool
	}{
		{view.Options{}, true, true, true},
		{view.Options{Enter: 1}, false, true, true}, {view.Options{Enter: 1001}, false, false, false}, {view.Options{Enter: -1}, false, false, false},
		{view.Options{Leave: 1}, false, true, true}, {view.Options{Leave: 1001}, false, false, false}, {view.Options{Leave: -1}, false, false, false},
		{view.Options{Move: 1}, false, true, false}, {view.Options{Move: 1001}, false, false, false}, {view.Options{Move: -1}, false, false, false},
		{view.Options{Mode: 1}, false, false, true}, {view.Options{Mode: 2}, false, false, true}, {view.Options{Mode: 3}, false, false, false},
		{view.Options{Mode: -1}, false, false, false}, {view.Options{Mode: math.MinInt}, false, false, false},
		{view.Options{Appear: true}, false, true, true}, {view.Options{Moves: true}, false, true, false},
		{view.Options{Enter: 1, Mode: 1}, false, false, true}, {view.Options{Enter: 1, Moves: true}, false, true, false},
		{view.Options{Move: 1, Mode: 1}, false, false, false}, {view.Options{Enter: math.MaxInt, Leave: math.MinInt}, false, false, false},
	} {
		for kind, may := range map[int]bool{view.Element: c.element, view.Group: c.group, view.Slot: c.slot} {
			want := api.ErrView
			if may {
				want = api.OK
			}
			wants(t, "options", view.Node{Kind: kind, Tag: "p", Opts: c.o}, want)
		}
	}
}

// P7.1: which kids a Group and a Slot may have.
func TestCheckKids(t *testing.T) {
	for _, kid := range []view.Node{text("x"), keyed(""), {Kind: view.Group, Tag: "p", Key: "a"}, {Kind: view.Slot, Tag: "p", Key: "a"}, {Tag: "p", Key: "a"}} {
		wants(t, "a kid of a Group", group(keyed("b"), kid), api.ErrView)
		wants(t, "a kid of a Slot", slot(kid), api.ErrView)
	}
	wants(t, "two kids of a Slot", slot(keyed("a"), keyed("b")), api.ErrView)
	wants(t, "two such kids of a Slot", slot(keyed("a"), keyed("a")), api.ErrView)
	for _, n := range []view.Node{group(keyed("a"), keyed("b"), keyed("a")), element(keyed("a"), text("x"), keyed("a")), element(group(keyed("1"), keyed("1")))} {
		wants(t, "kids with the same key", n, api.ErrKey)
	}
	wants(t, "the same keys elsewhere", group(keyed("a", keyed("a")), keyed("b", keyed("a"))), api.OK)
}

// P7.1: reserved names of all three kinds, at any place of a list.
func TestCheckNames(t *testing.T) {
	for _, name := range []string{"t-", "t-x", "t-ghost"} {
		for _, n := range []view.Node{
			{Classes: []string{"a", name}}, {Attrs: props.Map[string]{{Name: name}, {Name: "a"}}}, {Styles: props.Map[int]{{Name: "a"}, {Name: name, Value: 1}}},
		} {
			n.Kind, n.Tag = view.Group, "p"
			wants(t, name, n, api.ErrName)
			wants(t, name+" below", element(text("x"), n), api.ErrName)
		}
	}
}

// P7.1: of several errors of one node the first counts, and of several nodes the
// first one that has any.
func TestCheckOrder(t *testing.T) {
	reserved := view.Node{Kind: view.Element, Tag: "p", Classes: []string{"t-x"}, Kids: []view.Node{keyed("a"), keyed("a")}}
	wants(t, "a name and keys", reserved, api.ErrName)
	wants(t, "a name, keys and a text", as(reserved, func(n *view.Node) { n.Text = "x" }), api.ErrView)
	wants(t, "a name and no name", as(reserved, func(n *view.Node) { n.Classes = []string{"t-x", "A"} }), api.ErrView)
	bad := view.Node{Kind: view.Element}
	wants(t, "keys above what is invalid", element(keyed("a", bad), keyed("a")), api.ErrKey)
	wants(t, "what is invalid before keys", element(bad, element(keyed("a"), keyed("a"))), api.ErrView)
	wants(t, "keys before what is invalid", element(element(keyed("a"), keyed("a")), bad), api.ErrKey)
	wants(t, "below the one, before the other", element(element(element(reserved)), bad), api.ErrName)
	for _, c := range []struct {
		n            view.Node
		depth, nodes int
		want         api.Errno
	}{
		{element(bad), 1, 9, api.ErrDepth}, {element(bad), 9, 1, api.ErrNodes}, {element(bad), 1, 1, api.ErrDepth}, {element(bad), 2, 2, api.ErrView},
		{element(bad, element(element())), 2, 2, api.ErrView}, {element(element(), element(bad)), 2, 3, api.ErrDepth},
		{element(element(), element(bad)), 3, 2, api.ErrNodes}, {as(element(bad), func(n *view.Node) { n.Tag = "" }), 1, 1, api.ErrView},
	} {
		if got := c.n.Check(c.depth, c.nodes); got != c.want {
			t.Errorf("%d %d: %d, wanted %d", c.depth, c.nodes, got, c.want)
		}
	}
}

// P7.1: depth and nodes are limited themselves.
func TestCheckBounds(t *testing.T) {
	row := func(long int) view.Node { return element(slices.Repeat([]view.Node{text("x")}, long-1)...) }
	for _, c := range []struct {
		n            view.Node
		depth, nodes int
		want         api.Errno
	}{
		{chain(1), 1, 1, api.OK}, {chain(1), 0, 0, api.OK}, {chain(1), math.MinInt, math.MinInt, api.OK}, {chain(2), -5, 9, api.ErrDepth}, {chain(2), 9, -5, api.ErrNodes},
		{chain(5), 5, 5, api.OK}, {chain(6), 5, 9, api.ErrDepth}, {chain(6), 9, 5, api.ErrNodes}, {chain(20), 20, 20, api.OK}, {chain(20), 99, 99, api.OK},
		{chain(21), 99, 99, api.ErrDepth}, {chain(21), math.MaxInt, math.MaxInt, api.ErrDepth}, {row(4096), 20, 4096, api.OK},
		{row(4096), 2, math.MaxInt, api.OK}, {row(4097), 20, math.MaxInt, api.ErrNodes}, {row(4096), 20, 4095, api.ErrNodes}, {row(3), 2, 3, api.OK},
		{element(chain(3), chain(2)), 4, 6, api.OK}, {element(chain(3), chain(2)), 4, 5, api.ErrNodes}, {element(chain(2), chain(3)), 3, 5, api.ErrDepth},
	} {
		if got := c.n.Check(c.depth, c.nodes); got != c.want || checked(c.n, c.depth, c.nodes) != c.want {
			t.Errorf("%d %d: %d, wanted %d", c.depth, c.nodes, got, c.want)
		}
	}
}

// P7.1: Check, Normal, Size, Depth, Longest and Same of many views, valid or not,
// against the model; no view is changed.
func TestAgainstModel(t *testing.T) {
	r := rand.New(rand.NewSource(7))
	told := map[api.Errno]int{}
	for range 20000 {
		n := valid(r, 1+r.Intn(5), "")
		if r.Intn(2) > 0 {
			n = spoilt(r, n)
		}
		before := deepCopy(n)
		depth, nodes := choose(r, 1, 2, 3, 4, 5, 20), choose(r, 1, 3, 9, 30, 4096)
		want := checked(n, depth, nodes)
		told[want]++
		if got := n.Check(depth, nodes); got != want {
			t.Fatalf("Check of %+v is %d, wanted %d", n, got, want)
		}
		if got := n.Normal(); !equal(got, normal(n)) {
			t.Fatalf("Normal of %+v is %+v, wanted %+v", n, got, normal(n))
		}
		size, deep, longest := 0, 0, 0
		for _, p := range flat(n) {
			size, deep = size+1, max(deep, p.depth)
			longest = max(longest, p.n.Opts.Enter, p.n.Opts.Leave, p.n.Opts.Move)
		}
		if n.Size() != size || n.Depth() != deep || n.Longest() != longest {
			t.Fatalf("%+v: %d %d %d, wanted %d %d %d", n, n.Size(), n.Depth(), n.Longest(), size, deep, longest)
		}
		if !view.Same(n, before) || !equal(n, before) {
			t.Fatalf("%+v was changed from %+v", n, before)
		}
	}
	for _, e := range []api.Errno{api.OK, api.ErrView, api.ErrKey, api.ErrName, api.ErrDepth, api.ErrNodes} {
		if told[e] < 100 {
			t.Errorf("too few of error %d: %v", e, told)
		}
	}
}

// P7.1: the document's example, and what is adjacent only without empty Texts.
func TestNormal(t *testing.T) {
	odd := view.Node{Kind: view.Text, Text: "b", Key: "k", Kids: []view.Node{text("x"), text("y")}}
	for i, c := range []struct{ n, want view.Node }{
		{element(text("a"), text(""), text("b")), element(text("ab"))},
		{element(text(""), text("")), element()}, {text(""), text("")}, {element(text("")), element()},
		{element(text("a"), element(text("")), text("b")), element(text("a"), element(), text("b"))},
		{element(text(""), text("a"), text("b"), element(), text(""), text("c"), text(""), text("d"), text("")), element(text("ab"), element(), text("cd"))},
		{element(element(), element(element(text("x"), text("y")))), element(element(), element(element(text("xy"))))},
		{element(text("a"), odd), element(text("ab"))},
		{element(odd, text("a")), element(as(odd, func(n *view.Node) { n.Text, n.Kids = "ba", []view.Node{text("xy")} }))},
		{odd, as(odd, func(n *view.Node) { n.Kids = []view.Node{text("xy")} })},
		{view.Node{}, view.Node{}}, {element(view.Node{}, view.Node{}), element(view.Node{}, view.Node{})},
		{view.Node{Classes: []string{"b", "a", "b", "t-x"}, Attrs: pairs("b a b", "1", "2", "3"), Styles: pairs("b a b", 1, 2, 3)},
			view.Node{Classes: []string{"b", "a", "t-x"}, Attrs: pairs("a b", "2", "3"), Styles: pairs("a b", 2, 3)}},
		{element(text(strings.Repeat("x", 64)), text("y")), element(text(strings.Repeat("x", 64) + "y"))},
	} {
		if got := c.n.Normal(); !equal(got, c.want) {
			t.Errorf("%d: %+v, wanted %+v", i, got, c.want)
		}
	}
}

// P7.1: what Size, Depth and Longest are of the least view, and of negative
// durations; Longest looks at every node, whatever its Kind.
func TestMeasures(t *testing.T) {
	var zero view.Node
	if zero.Size() != 1 || zero.Depth() != 1 || zero.Longest() != 0 {
		t.Errorf("%d %d %d", zero.Size(), zero.Depth(), zero.Longest())
	}
	n := element(chain(3), element(chain(2), text("x"), text("")), text("y"))
	if n.Size() != 10 || n.Depth() != 4 {
		t.Errorf("%d %d", n.Size(), n.Depth())
	}
	for _, c := range []struct {
		o    view.Options
		want int
	}{
		{view.Options{Enter: -1, Leave: math.MinInt, Move: -3}, 0}, {view.Options{Enter: 5, Leave: 3}, 5}, {view.Options{Leave: 1001, Move: 2}, 1001},
		{view.Options{Move: math.MaxInt}, math.MaxInt}, {view.Options{Mode: 9}, 0},
	} {
		for _, kind := range []int{0, view.Text, view.Element, view.Group, view.Slot} {
			n := view.Node{Kind: kind, Opts: c.o}
			if n.Longest() != c.want || element(text("x"), element(n)).Longest() != c.want {
				t.Errorf("%+v: %d, wanted %d", n, n.Longest(), c.want)
			}
		}
	}
}

// P7.1: Same looks at everything; Maps count without their form, lists with it.
func TestSame(t *testing.T) {
	whole := view.Node{
		Kind: view.Group, Tag: "p", Key: "k", Text: "t", Classes: []string{"a", "b"}, Attrs: pairs("a b", "1", "2"),
		Styles: pairs("a b", 1, 2), Opts: view.Options{Enter: 1, Leave: 2, Move: 3, Mode: 1, Appear: true, Moves: true},
		Kids: []view.Node{text("x"), element(text("y"))},
	}
	same := []func(*view.Node){
		func(n *view.Node) {}, func(n *view.Node) { n.Attrs = pairs("b b a", "9", "2", "1") },
		func(n *view.Node) { n.Styles = pairs("b a a", 2, 3, 1) },
		func(n *view.Node) { n.Kids[1].Kids[0].Classes = []string{} }, func(n *view.Node) { n.Kids[0].Kids = []view.Node{} },
	}
	other := []func(*view.Node){
		func(n *view.Node) { n.Kind = view.Slot }, func(n *view.Node) { n.Tag = "q" }, func(n *view.Node) { n.Key = "" }, func(n *view.Node) { n.Text = "" },
		func(n *view.Node) { n.Classes = []string{"b", "a"} }, func(n *view.Node) { n.Classes = []string{"a", "b", "a"} }, func(n *view.Node) { n.Classes = nil },
		func(n *view.Node) { n.Attrs[0].Value = "" }, func(n *view.Node) { n.Attrs = n.Attrs[:1] }, func(n *view.Node) { n.Attrs[0].Name = "c" },
		func(n *view.Node) { n.Styles[0].Value = 0 }, func(n *view.Node) { n.Styles = nil }, func(n *view.Node) { n.Opts.Enter = 0 },
		func(n *view.Node) { n.Opts.Leave = 0 }, func(n *view.Node) { n.Opts.Move = 0 }, func(n *view.Node) { n.Opts.Mode = 0 },
		func(n *view.Node) { n.Opts.Appear = false }, func(n *view.Node) { n.Opts.Moves = false }, func(n *view.Node) { n.Kids = n.Kids[:1] },
		func(n *view.Node) { n.Kids = append(n.Kids, text("")) }, func(n *view.Node) { n.Kids[1].Kids[0].Text = "z" },
		func(n *view.Node) { slices.Reverse(n.Kids) },
	}
	for i, change := range append(slices.Clone(same), other...) {
		n := as(deepCopy(whole), change)
		if want := i < len(same); view.Same(n, whole) != want || view.Same(whole, n) != want || !view.Same(n, n) {
			t.Errorf("change %d: %v, wanted %v", i, !want, want)
		}
	}
}

// P7.2: Normal of Normal is the same. Normal of a valid view is valid, but for
// texts that are too long.
func TestNormalTwice(t *testing.T) {
	r := rand.New(rand.NewSource(8))
	long := 0
	for range 20000 {
		n := valid(r, 1+r.Intn(5), "")
		if e := n.Check(20, 4096); e != api.OK {
			t.Fatalf("%+v is not valid: %d", n, e)
		}
		once := n.Normal()
		if !equal(once.Normal(), once) {
			t.Fatalf("%+v is %+v, and then %+v", n, once, once.Normal())
		}
		if cut, was := shortened(once); was {
			long++
			once = cut
		}
		if e := once.Check(20, 4096); e != api.OK {
			t.Fatalf("Normal %+v of %+v is not valid: %d", once, n, e)
		}
		odd := spoilt(r, n).Normal()
		if !equal(odd.Normal(), odd) {
			t.Fatalf("%+v is then %+v", odd, odd.Normal())
		}
	}
	if long < 100 {
		t.Errorf("only %d with a text that is too long", long)
	}
}

// shortened cuts all texts that are too long, and tells whether there are any.
func shortened(n view.Node) (view.Node, bool) {
	was := len(n.Text) > 64
	if was {
		n.Text = n.Text[:64]
	}
	for i := range n.Kids {
		kid, cut := shortened(n.Kids[i])
		n.Kids[i], was = kid, was || cut
	}
	return n, was
}

// P1: no memory is shared, not even the spare capacity of a list.
func TestMemory(t *testing.T) {
	spare := func() view.Node {
		n := view.Node{Kind: view.Element, Tag: "p"}
		n.Classes = append(make([]string, 0, 9), "b", "a", "b")
		n.Attrs = append(make(props.Map[string], 0, 9), props.Pair[string]{Name: "b"}, props.Pair[string]{Name: "a"})
		n.Styles = append(make(props.Map[int], 0, 9), props.Pair[int]{Name: "b"}, props.Pair[int]{Name: "a"})
		n.Kids = append(make([]view.Node, 0, 9), text(""), text("a"), text(""), text("b"), element(text("x"), text("y")))
		return n
	}
	n := spare()
	m, again := n.Normal(), n.Normal()
	n.Check(20, 20)
	view.Same(n, m)
	if !equal(n, spare()) || n.Classes[:4][3] != "" || n.Attrs[:3][2].Name != "" || n.Styles[:3][2].Name != "" || n.Kids[:6][5].Kind != 0 {
		t.Errorf("what was passed is %+v", n)
	}
	want := deepCopy(again)
	n.Classes[0], n.Attrs[0].Name, n.Styles[0].Name, n.Kids[1].Text, n.Kids[4].Kids[0].Text = "z", "z", "z", "z", "z"
	m.Classes[0], m.Attrs[0].Name, m.Styles[0].Name, m.Kids[0].Text, m.Kids[1].Kids[0].Text = "y", "y", "y", "y", "y"
	if !equal(again, want) {
		t.Errorf("a change elsewhere made %+v of %+v", again, want)
	}
}

// P1: everything ends without a panic for the deepest view, for a long list, and
// for texts that are put together a hundred thousand times.
func TestExtremes(t *testing.T) {
	deep := chain(1 << 16)
	if deep.Depth() != 1<<16 || deep.Size() != 1<<16 || deep.Longest() != 0 || deep.Check(20, 4096) != api.ErrDepth {
		t.Error("the deepest view")
	}
	if m := deep.Normal(); !view.Same(m, deep) || view.Same(m, chain(1<<16-1)) {
		t.Error("Normal of the deepest view")
	}
	wide := element(slices.Repeat([]view.Node{text("ab")}, 100000)...)
	if m := wide.Normal(); len(m.Kids) != 1 || m.Kids[0].Text != strings.Repeat("ab", 100000) || wide.Check(20, 4096) != api.ErrNodes {
		t.Error("a long list of Texts")
	}
	var keys []view.Node
	for i := range 100000 {
		keys = append(keys, keyed(strings.Repeat("x", i%17)+string(rune('a'+i%26))))
	}
	if group(keys...).Check(20, 4096) != api.ErrKey {
		t.Error("a long list of keys")
	}
}
