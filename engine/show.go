package engine

import (
	"slices"

	"scrim/dress"
	"scrim/group"
	"scrim/match"
	"scrim/patch"
	"scrim/slot"
	"scrim/tree"
	"scrim/view"
	"scrim/weave"
)

// mount shows a view where there is none.
func (e *Engine) mount(n view.Node) {
	e.top = e.create(n)
	e.log.Insert(0, 0, e.top.ID)
}

// render shows a view instead of another one.
func (e *Engine) render(n view.Node) {
	before := e.Rects()
	if e.top.View.Kind == n.Kind {
		e.patch(e.top, n)
	} else {
		e.destroy(e.top)
		e.mount(n)
	}
	e.shift(e.top, before, e.Rects())
}

// create makes the items of a view, and lets those appear that do.
func (e *Engine) create(n view.Node) *tree.Item {
	x, _ := tree.Make(e.log, n)
	e.appear(x)
	return x
}

// appear lets the kids below an item enter whose parents want that even for those that
// are there from the beginning.
func (e *Engine) appear(x *tree.Item) {
	for _, kid := range x.Kids {
		e.appear(kid)
		if x.View.Opts.Appear {
			kid.State.Kind = dress.Wait
			e.enter(kid, false)
		}
	}
}

// patch lets an item show another node of the same Kind, with everything below it.
func (e *Engine) patch(x *tree.Item, n view.Node) {
	x.Show(e.log, n)
	switch n.Kind {
	case view.Element:
		e.patchElement(x, n.Kids)
	case view.Group:
		e.patchGroup(x, n.Kids)
	case view.Slot:
		e.patchSlot(x, n.Kids)
	}
}

// patchElement gives an item the kids of an Element: at once.
func (e *Engine) patchElement(x *tree.Item, kids []view.Node) {
	old := slices.Clone(x.Kids)
	were, are := each(old, ofElement), each(kids, wanted)
	for _, at := range match.Gone(were, are) {
		e.destroy(old[at])
	}
	var live []*tree.Item
	for i, at := range match.Pair(were, are) {
		if at < 0 {
			live = append(live, e.create(kids[i]))
		} else {
			e.patch(old[at], kids[i])
			live = append(live, old[at])
		}
	}
	e.arrange(x, live)
}

// patchGroup gives an item the kids of a Group: they come and go. Whoever waits then is
// new or returns, and enters.
func (e *Engine) patchGroup(x *tree.Item, kids []view.Node) {
	old := slices.Clone(x.Kids)
	plan := group.Of(each(old, ofGroup), each(kids, keyOf))
	for _, at := range plan.Leave {
		e.leave(old[at], false)
	}
	var live []*tree.Item
	for i, at := range plan.Take {
		kid := e.take(x, old, at, kids[i])
		if kid.State.Kind == dress.Wait {
			e.enter(kid, false)
		}
		live = append(live, kid)
	}
	e.arrange(x, merged(x.Kids, live))
}

// patchSlot gives an item the kid of a Slot, or none: one comes while, before or after
// another one goes.
func (e *Engine) patchSlot(x *tree.Item, kids []view.Node) {
	old := slices.Clone(x.Kids)
	plan := slot.Of(each(old, ofSlot), only(kids), x.View.Opts.Mode)
	for at, kid := range old {
		e.yield(kid, plan.Each[at])
	}
	var live []*tree.Item
	for _, n := range kids {
		kid := e.take(x, old, plan.Take, n)
		if plan.Start == slot.Enters {
			e.enter(kid, false)
		} else {
			kid.Paint(e.log)
		}
		live = append(live, kid)
	}
	e.arrange(x, merged(x.Kids, live))
	for _, at := range plan.Release {
		e.leave(old[at], true)
	}
}

// yield lets a kid make room for another one, in the way that is planned.
func (e *Engine) yield(x *tree.Item, way int) {
	switch way {
	case slot.Drops:
		e.destroy(x)
	case slot.Holds:
		e.apply(x, x.State.Hold())
	case slot.Leaves:
		e.leave(x, false)
	}
}

// take returns the kid that shows a node: one of the old ones, which returns if it is
// a ghost, or a new one, which waits. That one is not painted yet, for it may enter at
// once.
func (e *Engine) take(x *tree.Item, old []*tree.Item, at int, n view.Node) *tree.Item {
	if at < 0 {
		kid := e.create(n)
		kid.Parent, kid.State.Kind = x, dress.Wait
		return kid
	}
	kid := old[at]
	if kid.State.Ghost() {
		e.apply(kid, kid.State.Return())
	}
	e.patch(kid, n)
	return kid
}

// arrange gives an item its kids, in this order.
func (e *Engine) arrange(x *tree.Item, kids []*tree.Item) {
	for _, kid := range kids {
		kid.Parent = x
	}
	x.Kids = kids
	patch.Kids(e.log, x.ID, x.IDs())
}

// merged returns kids with the ghosts that were among the previous ones.
func merged(was, live []*tree.Item) []*tree.Item {
	items := map[int]*tree.Item{}
	for _, kid := range slices.Concat(was, live) {
		items[kid.ID] = kid
	}
	return each(weave.Merge(each(was, idOf), each(live, idOf)), func(id int) *tree.Item { return items[id] })
}

// each returns what a function makes of the elements of a list.
func each[T, U any](list []T, of func(T) U) []U {
	var l []U
	for _, x := range list {
		l = append(l, of(x))
	}
	return l
}

func idOf(x *tree.Item) int { return x.ID }

func keyOf(n view.Node) string { return n.Key }

// only returns the key of the one kid that there is, or an empty one.
func only(kids []view.Node) string {
	for _, n := range kids {
		return n.Key
	}
	return ""
}

func wanted(n view.Node) match.Kid { return match.Kid{Kind: n.Kind, Key: n.Key} }

func ofElement(x *tree.Item) match.Kid { return wanted(x.View) }

func ofGroup(x *tree.Item) group.Kid { return group.Kid{Key: x.View.Key, Ghost: x.State.Ghost()} }

func ofSlot(x *tree.Item) slot.Kid { return slot.Kid{Key: x.View.Key, Kind: x.State.Kind} }
