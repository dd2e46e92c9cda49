package engine

import (
	"slices"

	"scrim/arena"
	"scrim/dress"
	"scrim/hooks"
	"scrim/layout"
	"scrim/rect"
	"scrim/sched"
	"scrim/trail"
	"scrim/view"
)

// Mounted: is something?
func (e *Engine) Mounted() bool { return e.top != nil }

// View: what is. It is Normal already; that of it is a copy.
func (e *Engine) View() view.Node { return e.shown.Normal() }

// Dom: a copy of its nodes.
func (e *Engine) Dom() *arena.Dom { return e.made().log.Dom.Clone() }

// Hooks: all that was reported.
func (e *Engine) Hooks() hooks.Log { return slices.Clone(e.told) }

// Now: the clock.
func (e *Engine) Now() int { return e.made().clock.Now() }

// Pending: what waits.
func (e *Engine) Pending() []sched.Pending { return e.made().clock.List() }

// Rects: where all nodes are.
func (e *Engine) Rects() rect.Snap { return layout.Dom(e.made().log.Dom, e.width) }

// Look: how an item is, and whether there is one.
func (e *Engine) Look(id int) (dress.Look, bool) {
	x := e.find(id)
	if x == nil {
		return dress.Look{}, false
	}
	return x.State.Look, true
}

// Longest: the greatest duration of all views that were shown.
func (e *Engine) Longest() int { return e.longest }

// Ops: how the last call changed the nodes.
func (e *Engine) Ops() []trail.Op { return e.made().log.Ops() }
