package engine

import (
	"slices"

	"scrim/hooks"
	"scrim/phase"
	"scrim/sched"
	"scrim/slot"
	"scrim/tree"
	"scrim/view"
	"scrim/wheel"
)

// Kinds of jobs: what of a kid has waited.
const (
	transition = iota + 1
	move
	kinds
)

// step is a method of a State, without the State.
type step = func(phase.State) phase.Out

// begin performs a job that has waited for frames.
func (e *Engine) begin(j wheel.Job) {
	steps := [kinds]step{transition: phase.State.Frame, move: phase.State.MoveFrame}
	x := e.find(j.Node)
	e.apply(x, steps[j.Kind](x.State))
}

// finish performs a job that has waited for its time.
func (e *Engine) finish(j wheel.Job) {
	steps := [kinds]step{transition: phase.State.Finish, move: phase.State.MoveFinish}
	x := e.find(j.Node)
	e.apply(x, steps[j.Kind](x.State))
	if j.Kind == transition {
		e.proceed(x.Parent)
	}
}

// apply gives a kid what came of a method of its State.
func (e *Engine) apply(x *tree.Item, o phase.Out) {
	x.State = o.State
	if o.Gone {
		e.settleAll(x.Kids)
	}
	e.report(x, o.Hooks)
	if o.End {
		e.forget(&x.Job)
	}
	if o.MoveEnd {
		e.forget(&x.MoveJob)
	}
	e.await(&x.Job, o.Job, x.State.Dur, wheel.Job{Kind: transition, Node: x.ID})
	e.await(&x.MoveJob, o.MoveJob, x.State.MoveDur, wheel.Job{Kind: move, Node: x.ID})
	x.Paint(e.log)
	if o.Gone {
		e.remove(x)
	}
}

// enter lets a kid enter that waits; with once it does not wait for frames.
func (e *Engine) enter(x *tree.Item, once bool) {
	e.apply(x, x.State.Enter(x.Parent.View.Opts.Enter, once))
}

// leave lets a kid leave, likewise.
func (e *Engine) leave(x *tree.Item, once bool) {
	e.apply(x, x.State.Leave(x.Parent.View.Opts.Leave, once))
}

// proceed lets a Slot continue by itself; anything else does not. None is held any
// more when the current kid enters.
func (e *Engine) proceed(x *tree.Item) {
	if x.View.Kind != view.Slot {
		return
	}
	kids := slices.Clone(x.Kids)
	held, enters := slot.Next(each(kids, ofSlot))
	for _, at := range held {
		e.leave(kids[at], true)
	}
	if enters {
		e.enter(x.Live()[0], true)
	}
}

// settle ends whatever is in progress with an item and below it.
func (e *Engine) settle(x *tree.Item) {
	e.settleAll(x.Kids)
	if transits(x) {
		e.report(x, x.State.Settle().Hooks)
	}
	e.forget(&x.Job)
	e.forget(&x.MoveJob)
}

func (e *Engine) settleAll(kids []*tree.Item) {
	for _, kid := range kids {
		e.settle(kid)
	}
}

// destroy removes an item whose time is not over.
func (e *Engine) destroy(x *tree.Item) {
	e.settle(x)
	e.remove(x)
}

// remove removes an item and its node, with everything below it.
func (e *Engine) remove(x *tree.Item) {
	if x == e.top {
		e.top = nil
	} else {
		x.Parent.Kids = slices.DeleteFunc(x.Parent.Kids, func(kid *tree.Item) bool { return kid == x })
	}
	e.log.Remove(x.ID)
}

// report tells the hooks of a kid.
func (e *Engine) report(x *tree.Item, list []int) {
	for _, hook := range list {
		e.told = append(e.told, hooks.Entry{Group: x.Parent.ID, Node: x.ID, Hook: hook, Key: x.View.Key})
	}
}

// await lets a job wait, if there is anything to wait for. There is always room for it.
func (e *Engine) await(ref *sched.Ref, what, dur int, j wheel.Job) {
	switch what {
	case phase.Frames:
		*ref, _ = e.clock.Second(j)
	case phase.Timer:
		*ref, _ = e.clock.After(dur, j)
	}
}

// forget lets a job wait no more, if there is one.
func (e *Engine) forget(ref *sched.Ref) {
	e.clock.Cancel(*ref)
	*ref = sched.Ref{}
}

// transits reports whether an item is a kid that may come and go.
func transits(x *tree.Item) bool {
	return x.Parent != nil && (x.Parent.View.Kind == view.Group || x.Parent.View.Kind == view.Slot)
}
