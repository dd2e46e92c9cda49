package still_test

import (
	"math"
	"math/rand"
	"regexp"
	"slices"
	"strconv"
	"strings"

	"scrim/arena"
	"scrim/props"
	"scrim/still"
	"scrim/view"
)

func choose[T any](r *rand.Rand, l ...T) T { return l[r.Intn(len(l))] }

// pairs are of names, which stand in one text, with a value for each.
func pairs[V comparable](names string, values ...V) props.Map[V] {
	var m props.Map[V]
	for i, name := range strings.Fields(names) {
		m = append(m, props.Pair[V]{Name: name, Value: values[i]})
	}
	return m
}

// alike is like Same, but looks at IDs as well, and at the pairs as they stand.
func alike(a, b still.Tree) bool {
	return a.ID == b.ID && a.Kind == b.Kind && a.Tag == b.Tag && a.Text == b.Text &&
		slices.Equal(a.Classes, b.Classes) && slices.Equal(a.Attrs, b.Attrs) && slices.Equal(a.Styles, b.Styles) &&
		slices.EqualFunc(a.Kids, b.Kids, alike)
}

// deepCopy shares no memory with t.
func deepCopy(t still.Tree) still.Tree {
	t.Classes, t.Attrs, t.Styles = slices.Clone(t.Classes), slices.Clone(t.Attrs), slices.Clone(t.Styles)
	t.Kids = slices.Clone(t.Kids)
	for i, kid := range t.Kids {
		t.Kids[i] = deepCopy(kid)
	}
	return t
}

// scribble changes everything that is in the memory of a tree.
func scribble(t still.Tree) {
	for i := range t.Classes {
		t.Classes[i] = "zz"
	}
	for i := range t.Attrs {
		t.Attrs[i] = props.Pair[string]{Name: "zz", Value: "zz"}
	}
	for i := range t.Styles {
		t.Styles[i] = props.Pair[int]{Name: "zz", Value: 99}
	}
	for i := range t.Kids {
		scribble(t.Kids[i])
		t.Kids[i] = still.Tree{ID: 99, Tag: "zz"}
	}
}

// flat returns t and everything below it in order, without any recursion.
func flat(t still.Tree) []still.Tree {
	var all []still.Tree
	for todo := []still.Tree{t}; len(todo) > 0; {
		n := todo[len(todo)-1]
		todo = todo[:len(todo)-1]
		for _, kid := range slices.Backward(n.Kids) {
			todo = append(todo, kid)
		}
		all = append(all, n)
	}
	return all
}

// formed is t with Maps that have their form: of each name the last pair.
func formed(t still.Tree) still.Tree {
	t.Attrs, t.Styles = ordered(t.Attrs), ordered(t.Styles)
	kids := t.Kids
	t.Kids = nil
	for _, kid := range kids {
		t.Kids = append(t.Kids, formed(kid))
	}
	return t
}

func ordered[V comparable](m props.Map[V]) props.Map[V] {
	last := map[string]V{}
	for _, p := range m {
		last[p.Name] = p.Value
	}
	var l props.Map[V]
	for name, v := range last {
		l = append(l, props.Pair[V]{Name: name, Value: v})
	}
	slices.SortFunc(l, func(p, q props.Pair[V]) int { return strings.Compare(p.Name, q.Name) })
	return l
}

// tokens of what Show returns.
var tokens = regexp.MustCompile(`[^ ()':]*:?'[^']*'|\([^ ()']*|\)|[^ ()']+`)

// parsed is the tree that a text of Show tells of, if all names, values and texts
// are valid. It needs a stack of the nodes that are still open.
func parsed(s string) still.Tree {
	open := []still.Tree{{}}
	for _, w := range tokens.FindAllString(s, -1) {
		top := &open[len(open)-1]
		name, value, paired := strings.Cut(w, "=")
		switch {
		case w == ")":
			open = open[:len(open)-1]
			under := &open[len(open)-1]
			under.Kids = append(under.Kids, *top)
		case w[0] == '(':
			id, tag := marked(w[1:])
			open = append(open, still.Tree{ID: id, Kind: arena.Element, Tag: tag})
		case strings.HasSuffix(w, "'"):
			id, text := marked(w[:len(w)-1])
			top.Kids = append(top.Kids, still.Tree{ID: id, Kind: arena.Text, Text: text[1:]})
		case w[0] == '.':
			top.Classes = append(top.Classes, w[1:])
		case w[0] == '@' && paired:
			top.Attrs = append(top.Attrs, props.Pair[string]{Name: name[1:], Value: value})
		default:
			n, _ := strconv.Atoi(value)
			top.Styles = append(top.Styles, props.Pair[int]{Name: name, Value: n})
		}
	}
	return open[0].Kids[0]
}

// marked splits an ID from what it is written before, if there is one.
func marked(s string) (int, string) {
	if i := strings.IndexAny(s, ":'"); i >= 0 && s[i] == ':' {
		id, _ := strconv.Atoi(s[:i])
		return id, s[i+1:]
	}
	return 0, s
}

// erased is what is left of a text of Show, and "" if nothing is: words are left
// out one by one, and all of them as long as a ghost is open.
func erased(s string) string {
	var left []string
	words, open, ghost := tokens.FindAllString(s, -1), 0, 0
	for i, w := range words {
		if w[0] == '(' {
			open++
			if ghost == 0 && haunted(words[i+1:]) {
				ghost = open
			}
		}
		reserved := strings.HasPrefix(w, "t-") || strings.HasPrefix(w, ".t-") || strings.HasPrefix(w, "@t-")
		if ghost == 0 && !reserved {
			left = append(left, w)
		}
		if w == ")" {
			if ghost == open {
				ghost = 0
			}
			open--
		}
	}
	return strings.ReplaceAll(strings.Join(left, " "), " )", ")")
}

// haunted reports whether the words after a tag have the attribute of a ghost.
func haunted(words []string) bool {
	for _, w := range words {
		if w == ")" || w[0] == '(' || strings.HasSuffix(w, "'") {
			return false
		}
		if strings.HasPrefix(w, "@t-ghost=") {
			return true
		}
	}
	return false
}

// someTree returns a tree of names, values and texts that are valid, with or
// without what is reserved, and with IDs of all kinds.
func someTree(r *rand.Rand, deep int, reserved bool) still.Tree {
	id := choose(r, 0, 1, 2, 3, r.Intn(50), -7, math.MaxInt, math.MinInt)
	if r.Intn(3) == 0 {
		return still.Tree{ID: id, Kind: arena.Text, Text: choose(r, "", "a", "a b", "(p .a)", " ", ".a", "@a=", "1:", "t-ghost", strings.Repeat("~", 64))}
	}
	t := still.Tree{ID: id, Kind: arena.Element, Tag: choose(r, "p", "ul", "t-x", strings.Repeat("a", 16))}
	for range r.Intn(4) {
		t.Classes = append(t.Classes, choose(r, "a", "b", "on", "tt-"))
		t.Attrs = append(t.Attrs, props.Pair[string]{Name: choose(r, "a", "b", "ghost"), Value: choose(r, "", "=", "v", "b=1", "t-ghost", strings.Repeat("~", 32))})
		t.Styles = append(t.Styles, props.Pair[int]{Name: choose(r, "a", "b", "t"), Value: choose(r, 0, -7, math.MaxInt32, math.MinInt32)})
	}
	if reserved {
		t = withReserved(r, t)
	}
	for range r.Intn(4) * min(deep, 1) {
		t.Kids = append(t.Kids, someTree(r, deep-1, reserved))
	}
	return t
}

func withReserved(r *rand.Rand, t still.Tree) still.Tree {
	for range r.Intn(3) {
		t.Classes = slices.Insert(t.Classes, r.Intn(len(t.Classes)+1), choose(r, "t-", "t-move", "t-enter-from", "t-ghost"))
		t.Attrs = slices.Insert(t.Attrs, r.Intn(len(t.Attrs)+1), props.Pair[string]{Name: choose(r, "t-", "t-key", "t-a", "t-ghosts"), Value: "x"})
		t.Styles = slices.Insert(t.Styles, r.Intn(len(t.Styles)+1), props.Pair[int]{Name: choose(r, "t-", "t-dx", "t-dy", "t-ghost"), Value: 4})
	}
	if r.Intn(8) == 0 {
		t.Attrs = slices.Insert(t.Attrs, r.Intn(len(t.Attrs)+1), props.Pair[string]{Name: "t-ghost", Value: choose(r, "", "no")})
	}
	return t
}

// someView returns a view that may be. With a key it is a kid of a Group or Slot.
func someView(r *rand.Rand, deep int, key string) view.Node {
	if key == "" && r.Intn(3) == 0 {
		return view.Node{Kind: view.Text, Text: choose(r, "", "", "hi", "a b", "~!@", strings.Repeat("x", 64))}
	}
	n := view.Node{Kind: view.Element, Tag: choose(r, "p", "ul", "t-x"), Key: key}
	for range r.Intn(4) {
		n.Classes = append(n.Classes, choose(r, "a", "b", "on", "z9-"))
		n.Attrs = append(n.Attrs, props.Pair[string]{Name: choose(r, "a", "b", "w"), Value: choose(r, "", "=", "v", "t-x")})
		n.Styles = append(n.Styles, props.Pair[int]{Name: choose(r, "a", "b", "w"), Value: choose(r, 0, -7, math.MaxInt32)})
	}
	keys, most := []string{"", "", "", "", ""}, 5
	if key == "" {
		n.Kind, n.Key = choose(r, view.Element, view.Element, view.Group, view.Slot), choose(r, "", "k")
	}
	switch n.Kind {
	case view.Group:
		keys, n.Opts = []string{"a", "b", "1", "t-ghost", "-"}, view.Options{Enter: r.Intn(9), Move: r.Intn(9), Appear: true, Moves: true}
	case view.Slot:
		keys, most, n.Opts = []string{"a"}, 1, view.Options{Leave: r.Intn(9), Mode: r.Intn(3)}
	}
	for i := range r.Intn(most+1) * min(deep, 1) {
		kid := someView(r, deep-1, keys[i])
		kid.Key = keys[i]
		if kid.Kind == view.Text {
			kid.Key = ""
		}
		n.Kids = append(n.Kids, kid)
	}
	return n
}

// plain is the static rendering of a view, spelt out independently of the
// program: what is said is appended to the last kid, if that is a Text.
func plain(n view.Node) still.Tree {
	if n.Kind == view.Text {
		return still.Tree{Kind: arena.Text, Text: n.Text}
	}
	t := still.Tree{Kind: arena.Element, Tag: n.Tag, Attrs: ordered(n.Attrs), Styles: ordered(n.Styles)}
	for _, c := range n.Classes {
		if !slices.Contains(t.Classes, c) {
			t.Classes = append(t.Classes, c)
		}
	}
	for _, kid := range n.Kids {
		last := len(t.Kids) - 1
		switch {
		case kid.Kind == view.Text && kid.Text == "":
		case kid.Kind == view.Text && last >= 0 && t.Kids[last].Kind == arena.Text:
			t.Kids[last].Text += kid.Text
		default:
			t.Kids = append(t.Kids, plain(kid))
		}
	}
	return t
}
