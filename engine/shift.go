package engine

import (
	"scrim/flip"
	"scrim/rect"
	"scrim/tree"
)

// shift moves the kids of all Groups with Moves back to where they were, unless they
// are below a ghost: each Group before those below it. A new kid had no place before,
// and one that was a ghost enters, and so is not moved.
func (e *Engine) shift(x *tree.Item, before, after rect.Snap) {
	if x.State.Ghost() {
		return
	}
	if x.View.Opts.Moves {
		for _, s := range flip.Plan(before, after, each(x.Live(), idOf)) {
			kid := x.Find(s.ID)
			e.apply(kid, kid.State.Shift(s.DX, s.DY, x.View.Opts.Move))
		}
	}
	for _, kid := range x.Kids {
		e.shift(kid, before, after)
	}
}
