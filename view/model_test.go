package view_test

import (
	"math"
	"math/rand"
	"regexp"
	"slices"
	"strings"

	"scrim/api"
	"scrim/props"
	"scrim/view"
)

// What the document says of names, keys, values and texts in layer 2.
var (
	aName  = regexp.MustCompile(`^[a-z][a-z0-9-]{0,15}$`)
	aKey   = regexp.MustCompile(`^[a-z0-9-]{1,16}$`)
	aValue = regexp.MustCompile(`^[!-&*-~]{0,32}$`)
	aText  = regexp.MustCompile(`^[ -&(-~]{0,64}$`)
)

// placed is a node, and how deep it is.
type placed struct {
	n     view.Node
	depth int
}

// flat returns all nodes in the order of Check, without any recursion.
func flat(n view.Node) []placed {
	var all []placed
	for todo := []placed{{n, 1}}; len(todo) > 0; {
		p := todo[len(todo)-1]
		todo = todo[:len(todo)-1]
		all = append(all, p)
		for _, kid := range slices.Backward(p.n.Kids) {
			todo = append(todo, placed{kid, p.depth + 1})
		}
	}
	return all
}

// checked is Check, spelt out independently of the program.
func checked(n view.Node, depth, nodes int) api.Errno {
	depth, nodes = min(max(depth, 1), 20), min(max(nodes, 1), 4096)
	for i, p := range flat(n) {
		switch {
		case p.depth > depth:
			return api.ErrDepth
		case i+1 > nodes:
			return api.ErrNodes
		case wrong(p.n):
			return api.ErrView
		case hidden(p.n):
			return api.ErrName
		case doubled(p.n):
			return api.ErrKey
		}
	}
	return api.OK
}

func wrong(n view.Node) bool {
	text, group, slot := n.Kind == view.Text, n.Kind == view.Group, n.Kind == view.Slot
	empty := view.Node{Kind: view.Text, Text: n.Text}
	if text {
		return !equal(n, empty) || !aText.MatchString(n.Text)
	}
	if n.Kind < 1 || n.Kind > 4 || n.Text != "" || !aName.MatchString(n.Tag) || n.Key != "" && !aKey.MatchString(n.Key) {
		return true
	}
	for _, c := range n.Classes {
		if !aName.MatchString(c) {
			return true
		}
	}
	for _, p := range n.Attrs {
		if !aName.MatchString(p.Name) || !aValue.MatchString(p.Value) {
			return true
		}
	}
	for _, p := range n.Styles {
		if !aName.MatchString(p.Name) || p.Value < math.MinInt32 || p.Value > math.MaxInt32 {
			return true
		}
	}
	o := n.Opts
	most := func(x, most int, may bool) bool { return x == 0 || may && x > 0 && x <= most }
	if !most(o.Enter, 1000, group || slot) || !most(o.Leave, 1000, group || slot) || !most(o.Move, 1000, group) || !most(o.Mode, 2, slot) {
		return true
	}
	if o.Appear && !group && !slot || o.Moves && !group || slot && len(n.Kids) > 1 {
		return true
	}
	for _, kid := range n.Kids {
		if (group || slot) && (kid.Kind != view.Element || kid.Key == "") {
			return true
		}
	}
	return false
}

func hidden(n view.Node) bool {
	all := slices.Clone(n.Classes)
	for _, p := range n.Attrs {
		all = append(all, p.Name)
	}
	for _, p := range n.Styles {
		all = append(all, p.Name)
	}
	return slices.ContainsFunc(all, func(s string) bool { return len(s) > 1 && s[:2] == "t-" })
}

func doubled(n view.Node) bool {
	for i, kid := range n.Kids {
		for _, other := range n.Kids[:i] {
			if kid.Key == other.Key && kid.Key != "" {
				return true
			}
		}
	}
	return false
}

// normal is Normal, spelt out independently of the program: what is said is
// appended to the last kid, if that is a Text.
func normal(n view.Node) view.Node {
	m := n
	m.Classes, m.Attrs, m.Styles, m.Kids = nil, nil, nil, nil
	for _, c := range n.Classes {
		if !slices.Contains(m.Classes, c) {
			m.Classes = append(m.Classes, c)
		}
	}
	m.Attrs, m.Styles = ordered(n.Attrs), ordered(n.Styles)
	for _, kid := range n.Kids {
		last := len(m.Kids) - 1
		switch {
		case kid.Kind == view.Text && kid.Text == "":
		case kid.Kind == view.Text && last >= 0 && m.Kids[last].Kind == view.Text:
			m.Kids[last].Text += kid.Text
		default:
			m.Kids = append(m.Kids, normal(kid))
		}
	}
	return m
}

func ordered[V comparable](m props.Map[V]) props.Map[V] {
	last := map[string]V{}
	for _, p := range m {
		last[p.Name] = p.Value
	}
	var l props.Map[V]
	for name, v := range last {
		l = append(l, props.Pair[V]{Name: name, Value: v})
	}
	slices.SortFunc(l, func(p, q props.Pair[V]) int { return strings.Compare(p.Name, q.Name) })
	return l
}

// equal is like Same, but looks at the pairs as they stand.
func equal(a, b view.Node) bool {
	return a.Kind == b.Kind && a.Tag == b.Tag && a.Key == b.Key && a.Text == b.Text && a.Opts == b.Opts &&
		slices.Equal(a.Classes, b.Classes) && slices.Equal(a.Attrs, b.Attrs) && slices.Equal(a.Styles, b.Styles) &&
		slices.EqualFunc(a.Kids, b.Kids, equal)
}

// deepCopy shares no memory with n.
func deepCopy(n view.Node) view.Node {
	n.Classes, n.Attrs, n.Styles = slices.Clone(n.Classes), slices.Clone(n.Attrs), slices.Clone(n.Styles)
	n.Kids = slices.Clone(n.Kids)
	for i, kid := range n.Kids {
		n.Kids[i] = deepCopy(kid)
	}
	return n
}

func choose[T any](r *rand.Rand, l ...T) T { return l[r.Intn(len(l))] }

// seldom returns the first one most of the time.
func seldom[T any](r *rand.Rand, usual T, l ...T) T {
	if r.Intn(40) > 0 {
		return usual
	}
	return choose(r, l...)
}

// valid returns a view that may be. With a key it is a kid of a Group or Slot.
func valid(r *rand.Rand, deep int, key string) view.Node {
	if key == "" && r.Intn(3) == 0 {
		return view.Node{Kind: view.Text, Text: choose(r, "", "", "hi", "a b", "~!@", strings.Repeat("x", 64))}
	}
	n := view.Node{Kind: view.Element, Tag: choose(r, "p", "ul", "t-x", strings.Repeat("a", 16)), Key: key}
	for range r.Intn(4) {
		n.Classes = append(n.Classes, choose(r, "a", "b", "on", "z9-"))
	}
	for range r.Intn(4) {
		n.Attrs = append(n.Attrs, props.Pair[string]{Name: choose(r, "a", "b", "w"), Value: choose(r, "", "=", "v", strings.Repeat("~", 32))})
	}
	for range r.Intn(4) {
		n.Styles = append(n.Styles, props.Pair[int]{Name: choose(r, "a", "b", "w"), Value: choose(r, 0, -7, math.MaxInt32, math.MinInt32)})
	}
	if key == "" {
		n.Kind = choose(r, view.Element, view.Element, view.Group, view.Slot)
		n.Key = choose(r, "", "", "k")
	}
	return withKids(r, n, deep)
}

func withKids(r *rand.Rand, n view.Node, deep int) view.Node {
	most, keys := 4, choose(r, []string{"a", "b", "c", "1"}, []string{"-", "b", "0-0", strings.Repeat("k", 16)})
	time := func() int { return choose(r, 0, 0, 1, 7, 1000) }
	switch n.Kind {
	case view.Group:
		n.Opts = view.Options{Enter: time(), Leave: time(), Move: time(), Appear: r.Intn(2) > 0, Moves: r.Intn(2) > 0}
	case view.Slot:
		most = 1
		n.Opts = view.Options{Enter: time(), Leave: time(), Mode: r.Intn(3), Appear: r.Intn(2) > 0}
	default:
		keys = []string{"", "", "", ""}
	}
	if deep <= 1 {
		return n
	}
	for i := range r.Intn(most + 1) {
		kid := valid(r, deep-1, keys[i])
		if keys[i] == "" {
			kid.Key = ""
		}
		n.Kids = append(n.Kids, kid)
	}
	return n
}

// spoilt changes a view here and there, so that it mostly may not be any more.
func spoilt(r *rand.Rand, n view.Node) view.Node {
	n.Kind = seldom(r, n.Kind, -1, 0, 1, 2, 3, 4, 5)
	n.Tag = seldom(r, n.Tag, "", "p", "P", "1a")
	n.Key = seldom(r, n.Key, "", "a", "b", "a.b", "K")
	n.Text = seldom(r, n.Text, "", "hi", "it's", "\x1f", strings.Repeat("x", 65))
	n.Opts.Enter = seldom(r, n.Opts.Enter, 1, -1, 1001)
	n.Opts.Leave = seldom(r, n.Opts.Leave, 1, -1, 1001)
	n.Opts.Move = seldom(r, n.Opts.Move, 1, -1, 1001)
	n.Opts.Mode = seldom(r, n.Opts.Mode, 1, -1, 3)
	n.Opts.Appear = seldom(r, n.Opts.Appear, true)
	n.Opts.Moves = seldom(r, n.Opts.Moves, true)
	n.Classes = seldom(r, n.Classes, nil, []string{"a"}, []string{"t-x"}, []string{"A"}, []string{"a", ""})
	n.Attrs = seldom(r, n.Attrs, nil, props.Map[string]{{Name: "t-a"}}, props.Map[string]{{Name: "a", Value: "("}, {Name: "a"}})
	n.Styles = seldom(r, n.Styles, nil, props.Map[int]{{Name: "t-a"}}, props.Map[int]{{Name: "a", Value: 1 << 31}, {Name: "a"}})
	kids := n.Kids
	n.Kids = nil
	for i, kid := range kids {
		if r.Intn(8) == 0 {
			kid.Key = choose(r, "a", kids[i/2].Key)
		}
		n.Kids = append(n.Kids, seldom(r, spoilt(r, kid), kid))
	}
	return n
}
