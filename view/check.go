package view

import (
	"slices"

	"scrim/api"
	"scrim/sat"
	"scrim/word"
)

// Check: may it be?
func (n Node) Check(depth, nodes int) api.Errno {
	b := bounds{depth: sat.Clip(depth, 1, api.MaxDepth), left: sat.Clip(nodes, 1, api.MaxNodes)}
	return b.check(n, 1)
}

// bounds is the depth that nodes may have, and how many more there may be.
type bounds struct{ depth, left int }

// check returns the first error of a node, or of those below it. It goes down
// only as far as nodes may be, so that even the deepest view is checked soon.
func (b *bounds) check(n Node, depth int) api.Errno {
	if depth > b.depth {
		return api.ErrDepth
	}
	if b.left == 0 {
		return api.ErrNodes
	}
	b.left--
	if e := n.alone(); e != api.OK {
		return e
	}
	for _, kid := range n.Kids {
		if e := b.check(kid, depth+1); e != api.OK {
			return e
		}
	}
	return api.OK
}

// alone returns the first error that has nothing to do with the bounds.
func (n Node) alone() api.Errno {
	switch {
	case n.invalid():
		return api.ErrView
	case n.uses(api.ErrName):
		return api.ErrName
	case twins(n.Kids):
		return api.ErrKey
	}
	return api.OK
}

func (n Node) invalid() bool {
	switch n.Kind {
	case Text:
		return !word.Text(n.Text) || !n.onlyText()
	case Element, Group, Slot:
		return n.Text != "" || !n.named() || !n.valued() || !n.Opts.fit(n.Kind) || !n.holds()
	}
	return true
}

func (n Node) onlyText() bool {
	return n.Tag == "" && n.Key == "" && n.Opts == Options{} &&
		len(n.Classes) == 0 && len(n.Attrs) == 0 && len(n.Styles) == 0 && len(n.Kids) == 0
}

// named reports whether everything has a name that is one. Reserved ones are
// names as well, and the tag and the key may even be reserved.
func (n Node) named() bool {
	return word.Name(n.Tag) && (n.Key == "" || word.Key(n.Key)) && !n.uses(api.ErrForm)
}

// uses reports whether Check of layer 2 returns e for a class, or for the name of
// an attribute or style.
func (n Node) uses(e api.Errno) bool {
	names := slices.Clone(n.Classes)
	for _, p := range n.Attrs {
		names = append(names, p.Name)
	}
	for _, p := range n.Styles {
		names = append(names, p.Name)
	}
	return slices.ContainsFunc(names, func(name string) bool { return word.Check(name) == e })
}

// valued looks at all pairs as they stand, also at those that do not count in a
// Map because a later one has the same name.
func (n Node) valued() bool {
	for _, p := range n.Attrs {
		if !word.Value(p.Value) {
			return false
		}
	}
	for _, p := range n.Styles {
		if sat.Sat(p.Value) != p.Value {
			return false
		}
	}
	return true
}

// fit reports whether nothing is left of the options without those that a kind
// may have.
func (o Options) fit(kind int) bool {
	if kind == Group || kind == Slot {
		o.Enter, o.Leave = beyond(o.Enter, api.MaxDur), beyond(o.Leave, api.MaxDur)
		o.Appear = false
	}
	if kind == Group {
		o.Move = beyond(o.Move, api.MaxDur)
		o.Moves = false
	}
	if kind == Slot {
		o.Mode = beyond(o.Mode, InOut)
	}
	return o == Options{}
}

// beyond returns 0 for a number from 0 to most, and otherwise the number, which
// is not 0 then.
func beyond(x, most int) int {
	if x >= 0 && x <= most {
		return 0
	}
	return x
}

// holds reports whether the node may have as many kids, and such ones.
func (n Node) holds() bool {
	if n.Kind == Element {
		return true
	}
	if n.Kind == Slot && len(n.Kids) > 1 {
		return false
	}
	return !slices.ContainsFunc(n.Kids, func(kid Node) bool { return kid.Kind != Element || kid.Key == "" })
}

// twins reports whether two kids have the same key.
func twins(kids []Node) bool {
	keys := map[string]struct{}{}
	for _, kid := range kids {
		if _, there := keys[kid.Key]; there && kid.Key != "" {
			return true
		}
		keys[kid.Key] = struct{}{}
	}
	return false
}
