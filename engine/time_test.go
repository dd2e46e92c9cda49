package engine_test

import (
	"math"
	"slices"
	"testing"

	"scrim/api"
	"scrim/dress"
	"scrim/engine"
	"scrim/props"
	"scrim/rect"
	"scrim/trail"
	"scrim/view"
)

// P27.1: out-in: the new kid waits, marked, until the old one has left, and then does
// not wait for frames.
func TestOutIn(t *testing.T) {
	e := mounted(t, "(div !slot !leave=2 !out-in (p #a))")
	render(t, e, "(div !slot !leave=2 !enter=3 !out-in (p #b .on))")
	shows(t, e, "(1:div (2:p .t-leave-from .t-leave-active @t-ghost=) (3:p .on .t-wait))")
	does(t, e, trail.Op{Kind: trail.Class, A: 2, Name: "t-leave-from"}, trail.Op{Kind: trail.Class, A: 2, Name: "t-leave-active"}, trail.Op{Kind: trail.Attr, A: 2, Name: "t-ghost"},
		trail.Op{Kind: trail.Element, A: 3, Name: "p"}, trail.Op{Kind: trail.Class, A: 3, Name: "on"}, trail.Op{Kind: trail.Class, A: 3, Name: "t-wait"}, trail.Op{Kind: trail.Insert, A: 1, B: 1, C: 3})
	pends(t, e, "frame 1 2 2")
	twice(e)
	e.Tick(1)
	shows(t, e, "(1:div (2:p .t-leave-active .t-leave-to @t-ghost=) (3:p .on .t-wait))")
	e.Tick(1)
	shows(t, e, "(1:div (3:p .on .t-enter-active .t-enter-to))")
	pends(t, e, "timer 1 3 5")
	told(t, e, 0, "1 a 2 before-leave", "1 a 2 leave", "1 a 2 after-leave", "1 b 3 before-enter", "1 b 3 enter")
}

// P27.1: a kid that waits is destroyed without a hook when it is not required any more;
// one that leaves returns to wait.
func TestDrops(t *testing.T) {
	e := mounted(t, "(div !slot !leave=2 !out-in (p #a))")
	render(t, e, "(div !slot !leave=2 !out-in (p #b (ol !group !appear (li #x))))")
	render(t, e, "(div !slot !leave=2 !out-in (p #c))")
	shows(t, e, "(1:div (2:p .t-leave-from .t-leave-active @t-ghost=) (6:p .t-wait))")
	told(t, e, 0, "1 a 2 before-leave", "1 a 2 leave", "4 x 5 before-enter", "4 x 5 enter", "4 x 5 enter-cancelled")
	render(t, e, "(div !slot !leave=2 !out-in (p #a .on))")
	shows(t, e, "(1:div (2:p .on .t-enter-from .t-enter-active))")
	told(t, e, 5, "1 a 2 leave-cancelled", "1 a 2 before-enter", "1 a 2 enter")
	render(t, e, "(div !slot !leave=2 !out-in (p #b))")
	render(t, e, "(div !slot !leave=2 (p #c))")
	shows(t, e, "(1:div (2:p .on .t-leave-from .t-leave-active @t-ghost=) (8:p .t-enter-from .t-enter-active))")
	render(t, e, "(div !slot !leave=2 !out-in (p #a))")
	shows(t, e, "(1:div (2:p .t-wait) (8:p .t-leave-from .t-leave-active @t-ghost=))")
	render(t, e, "(div !slot !leave=2)")
	shows(t, e, "(1:div (8:p .t-leave-from .t-leave-active @t-ghost=))")
	twice(e)
	e.Tick(2)
	shows(t, e, "(1:div)")
}

// P27.1: in-out: the old kid is held until the new one has entered; one that is held
// may return, and then whoever was entering leaves.
func TestInOut(t *testing.T) {
	e := mounted(t, "(div !slot !enter=2 !leave=3 !in-out (p #a))")
	render(t, e, "(div !slot !enter=2 !leave=3 !in-out (p #b))")
	shows(t, e, "(1:div (2:p .t-hold @t-ghost=) (3:p .t-enter-from .t-enter-active))")
	twice(e)
	e.Tick(1)
	pends(t, e, "timer 1 3 2")
	e.Tick(1)
	shows(t, e, "(1:div (2:p .t-leave-active .t-leave-to @t-ghost=) (3:p))")
	pends(t, e, "timer 1 2 5")
	told(t, e, 0, "1 b 3 before-enter", "1 b 3 enter", "1 b 3 after-enter", "1 a 2 before-leave", "1 a 2 leave")
	render(t, e, "(div !slot !enter=2 !leave=3 !in-out (p #c))")
	render(t, e, "(div !slot !enter=2 !leave=3 !in-out (p #b .on))")
	shows(t, e, "(1:div (2:p .t-leave-active .t-leave-to @t-ghost=) (3:p .on) (4:p .t-leave-active .t-leave-to @t-ghost=))")
	told(t, e, 5, "1 c 4 before-enter", "1 c 4 enter", "1 c 4 enter-cancelled", "1 c 4 before-leave", "1 c 4 leave")
	pends(t, e, "timer 1 2 5", "timer 1 4 5")
	e.Tick(3)
	shows(t, e, "(1:div (3:p .on))")
}

// P27.1: what is held leaves as soon as none is required, or none enters.
func TestRelease(t *testing.T) {
	e := mounted(t, "(div !slot !enter=2 !leave=3 !in-out (p #a))")
	render(t, e, "(div !slot !enter=2 !leave=3 !in-out (p #b))")
	render(t, e, "(div !slot !enter=2 !leave=3 !in-out (p #c))")
	shows(t, e, "(1:div (2:p .t-hold @t-ghost=) (3:p .t-hold @t-ghost=) (4:p .t-enter-from .t-enter-active))")
	told(t, e, 0, "1 b 3 before-enter", "1 b 3 enter", "1 b 3 enter-cancelled", "1 c 4 before-enter", "1 c 4 enter")
	render(t, e, "(div !slot !enter=2 !leave=7 !out-in (p #d))")
	shows(t, e, "(1:div (2:p .t-leave-active .t-leave-to @t-ghost=) (3:p .t-leave-active .t-leave-to @t-ghost=) (4:p .t-leave-from .t-leave-active @t-ghost=) (5:p .t-wait))")
	told(t, e, 5, "1 c 4 enter-cancelled", "1 c 4 before-leave", "1 c 4 leave", "1 a 2 before-leave", "1 a 2 leave", "1 b 3 before-leave", "1 b 3 leave")
	pends(t, e, "frame 1 4 2", "timer 1 2 7", "timer 1 3 7")
	does(t, e, trail.Op{Kind: trail.NoClass, A: 4, Name: "t-enter-from"}, trail.Op{Kind: trail.NoClass, A: 4, Name: "t-enter-active"},
		trail.Op{Kind: trail.Class, A: 4, Name: "t-leave-from"}, trail.Op{Kind: trail.Class, A: 4, Name: "t-leave-active"}, trail.Op{Kind: trail.Attr, A: 4, Name: "t-ghost"},
		trail.Op{Kind: trail.Element, A: 5, Name: "p"}, trail.Op{Kind: trail.Class, A: 5, Name: "t-wait"}, trail.Op{Kind: trail.Insert, A: 1, B: 3, C: 5},
		trail.Op{Kind: trail.NoClass, A: 2, Name: "t-hold"}, trail.Op{Kind: trail.Class, A: 2, Name: "t-leave-active"}, trail.Op{Kind: trail.Class, A: 2, Name: "t-leave-to"},
		trail.Op{Kind: trail.NoClass, A: 3, Name: "t-hold"}, trail.Op{Kind: trail.Class, A: 3, Name: "t-leave-active"}, trail.Op{Kind: trail.Class, A: 3, Name: "t-leave-to"})
	e = mounted(t, "(div !slot !in-out (p #a))")
	render(t, e, "(div !slot !in-out (p #b))")
	e.Frame()
	e.Cancel(3)
	shows(t, e, "(1:div (2:p .t-leave-active .t-leave-to @t-ghost=) (3:p))")
	render(t, e, "(div !slot !in-out (p #c))")
	render(t, e, "(div !slot !in-out)")
	shows(t, e, "(1:div (2:p .t-leave-active .t-leave-to @t-ghost=) (3:p .t-leave-active .t-leave-to @t-ghost=) (4:p .t-leave-from .t-leave-active @t-ghost=))")
}

// P27.1: timers that start meanwhile and are due by then are processed, each when the
// clock is at its deadline.
func TestTick(t *testing.T) {
	e := mounted(t, "(p (div !slot !enter=2 !leave=3 !out-in (p #a)) (ul !group !leave=4 (li #x)))")
	render(t, e, "(p (div !slot !enter=2 !leave=3 !out-in (p #b)) (ul !group !leave=4))")
	twice(e)
	if e.Tick(0) != api.OK || e.Now() != 0 {
		t.Errorf("the clock is %d", e.Now())
	}
	from := len(e.Hooks())
	e.Tick(6)
	told(t, e, from, "2 a 3 after-leave", "2 b 6 before-enter", "2 b 6 enter", "4 x 5 after-leave", "2 b 6 after-enter")
	if shows(t, e, "(1:p (2:div (6:p)) (4:ul))"); e.Now() != 6 {
		t.Errorf("the clock is %d", e.Now())
	}
	render(t, e, "(p (div !slot !enter=0 !leave=0 !out-in (p #c)) (ul !group))")
	twice(e)
	e.Tick(0)
	shows(t, e, "(1:p (2:div (7:p)) (4:ul))")
	pends(t, e)
}

// P27.1: the clock stops at the last tick, where every timer is due.
func TestLastTick(t *testing.T) {
	for _, n := range []int{math.MaxInt, api.MaxClock, api.MaxClock + 1} {
		e := mounted(t, "(div !slot !enter=1000 !leave=1000 !out-in (p #a))")
		if e.Tick(n) != api.OK || e.Now() != api.MaxClock {
			t.Errorf("after %d the clock is %d", n, e.Now())
		}
		render(t, e, "(div !slot !enter=1000 !leave=1000 !out-in (p #b))")
		twice(e)
		pends(t, e, "timer 1 2 1099511627776")
		e.Tick(0)
		shows(t, e, "(1:div (3:p))")
		if e.Tick(1); e.Now() != 1<<40 {
			t.Errorf("the clock is %d", e.Now())
		}
	}
	e := mounted(t, "(p)")
	e.Tick(1<<40 - 1)
	if e.Tick(1); e.Now() != 1<<40 {
		t.Errorf("the clock is %d", e.Now())
	}
}

// P27.1: End ends what is in progress, the transition and the move, and nothing that
// has only begun; a Slot then continues. Nothing happens to what is no kid of a Group
// or Slot.
func TestEnd(t *testing.T) {
	e := mounted(t, "(div !slot !leave=5 !enter=5 !out-in (p #a 'x'))")
	render(t, e, "(div !slot !leave=5 !enter=5 !out-in (p #b (q)))")
	for _, id := range []int{1, 2, 3, 4, 5} {
		if e.End(id) != api.OK {
			t.Errorf("End of %d is an error", id)
		}
		does(t, e)
	}
	told(t, e, 0, "1 a 2 before-leave", "1 a 2 leave")
	twice(e)
	e.End(2)
	shows(t, e, "(1:div (4:p .t-enter-active .t-enter-to (5:q)))")
	pends(t, e, "timer 1 4 5")
	if e.End(2) != api.ErrNode || e.End(3) != api.ErrNode || e.End(0) != api.ErrNode {
		t.Error("what is gone can be ended")
	}
	e.End(4)
	shows(t, e, "(1:div (4:p (5:q)))")
	told(t, e, 2, "1 a 2 after-leave", "1 b 4 before-enter", "1 b 4 enter", "1 b 4 after-enter")
	pends(t, e)
}

// P27.1: Cancel ends what has begun as well, and does not end waiting.
func TestCancel(t *testing.T) {
	e := mounted(t, "(div !slot !leave=5 !enter=5 !out-in (p #a))")
	render(t, e, "(div !slot !leave=5 !enter=5 !out-in (p #b (q)))")
	e.Cancel(3)
	e.Cancel(4)
	e.Cancel(1)
	shows(t, e, "(1:div (2:p .t-leave-from .t-leave-active @t-ghost=) (3:p .t-wait (4:q)))")
	e.Cancel(2)
	shows(t, e, "(1:div (3:p .t-enter-active .t-enter-to (4:q)))")
	e.Cancel(3)
	shows(t, e, "(1:div (3:p (4:q)))")
	told(t, e, 0, "1 a 2 before-leave", "1 a 2 leave", "1 a 2 after-leave", "1 b 3 before-enter", "1 b 3 enter", "1 b 3 enter-cancelled")
	pends(t, e)
}

// P27.1 and P27.4: kids whose position changes are moved to where they were, and come
// back from the second Frame on.
func TestMoves(t *testing.T) {
	e := mounted(t, "(ul !group !move=2 !moves (li #a 'x') (li #b 'y'))")
	render(t, e, "(ul !group !move=2 !moves (li #b 'y') (li #a 'x'))")
	shows(t, e, "(1:ul (4:li .t-move t-dx=0 t-dy=1 5:'y') (2:li .t-move t-dx=0 t-dy=-1 3:'x'))")
	does(t, e, trail.Op{Kind: trail.Move, A: 4}, trail.Op{Kind: trail.Class, A: 4, Name: "t-move"}, trail.Op{Kind: trail.Style, A: 4, Name: "t-dx"}, trail.Op{Kind: trail.Style, A: 4, Name: "t-dy", C: 1},
		trail.Op{Kind: trail.Class, A: 2, Name: "t-move"}, trail.Op{Kind: trail.Style, A: 2, Name: "t-dx"}, trail.Op{Kind: trail.Style, A: 2, Name: "t-dy", C: -1})
	pends(t, e, "frame 2 4 2", "frame 2 2 2")
	if look, _ := e.Look(2); look != (dress.Look{Move: away, DY: -1}) {
		t.Errorf("it is %v", look)
	}
	e.Frame()
	e.End(4)
	pends(t, e, "frame 2 4 1", "frame 2 2 1")
	e.Frame()
	shows(t, e, "(1:ul (4:li .t-move 5:'y') (2:li .t-move 3:'x'))")
	pends(t, e, "timer 2 4 2", "timer 2 2 2")
	e.End(4)
	shows(t, e, "(1:ul (4:li 5:'y') (2:li .t-move 3:'x'))")
	e.Tick(2)
	shows(t, e, "(1:ul (4:li 5:'y') (2:li 3:'x'))")
	pends(t, e)
	told(t, e, 0)
}

// P27.1: a move begins anew when the position changes once more, and goes on when it
// does not; it ends when the kid leaves, or by Cancel.
func TestMovesAgain(t *testing.T) {
	e := mounted(t, "(ul !group !move=2 !moves (li #a 'x') (li #b h=3) (li #c))")
	render(t, e, "(ul !group !move=2 !moves (li #b h=3) (li #a 'x') (li #c))")
	twice(e)
	render(t, e, "(ul !group !move=2 !moves (li #b h=3) (li #a 'y') (li #c))")
	shows(t, e, "(1:ul (4:li .t-move h=3) (2:li .t-move 3:'y') (5:li))")
	pends(t, e, "timer 2 4 2", "timer 2 2 2")
	render(t, e, "(ul !group !move=9 !moves (li #a 'y') (li #b h=3) (li #c))")
	shows(t, e, "(1:ul (2:li .t-move t-dx=0 t-dy=3 3:'y') (4:li .t-move h=3 t-dx=0 t-dy=-1) (5:li))")
	pends(t, e, "frame 2 2 2", "frame 2 4 2")
	render(t, e, "(ul !group !move=1 !moves (li #b h=1) (li #c))")
	shows(t, e, "(1:ul (2:li .t-leave-from .t-leave-active @t-ghost= 3:'y') (4:li .t-move h=1 t-dx=0 t-dy=-1) (5:li .t-move t-dx=0 t-dy=2))")
	pends(t, e, "frame 2 4 2", "frame 1 2 2", "frame 2 5 2")
	e.Cancel(4)
	shows(t, e, "(1:ul (2:li .t-leave-from .t-leave-active @t-ghost= 3:'y') (4:li h=1) (5:li .t-move t-dx=0 t-dy=2))")
	twice(e)
	pends(t, e, "timer 1 2 0", "timer 2 5 1")
}

// P27.1: only Groups with Moves, and only kids that are still, and were there and no
// ghosts before.
func TestMovesOnly(t *testing.T) {
	e := mounted(t, "(p 'x' (ul !group !moves (li #a) (li #b)) (ol !group (li #c)) (dl !slot (dd #d)))")
	render(t, e, "(p 'x' (ul !group !moves !enter=1 !leave=1 (li #n h=2) (li #a)) (ol !group (li #c)) (dl !slot (dd #d)))")
	shows(t, e, "(1:p 2:'x' (3:ul (10:li .t-enter-from .t-enter-active h=2) (4:li .t-move t-dx=0 t-dy=-2) (5:li .t-leave-from .t-leave-active @t-ghost=)) (6:ol (7:li)) (8:dl (9:dd)))")
	e.Cancel(4)
	render(t, e, "(p 'x' (ul !group !moves !enter=1 !leave=1 (li #a h=5) (li #b) (li #n)) (ol !group (li #c)) (dl !slot (dd #d)))")
	shows(t, e, "(1:p 2:'x' (3:ul (4:li .t-move h=5 t-dx=0 t-dy=2) (5:li .t-enter-from .t-enter-active) (10:li .t-enter-from .t-enter-active)) (6:ol (7:li)) (8:dl (9:dd)))")
	pends(t, e, "frame 1 10 2", "frame 1 5 2", "frame 2 4 2")
	e = mounted(t, "(p 'x' (ul !group (li #a)))")
	render(t, e, "(p (p #z h=9) 'x' (ul !group !moves !move=1 (li #a)))")
	shows(t, e, "(1:p (5:p h=9) 2:'x' (3:ul (4:li .t-move t-dx=0 t-dy=-9)))")
}

// P27.1: each Group is processed before those below it, and none below a ghost, but
// what was below a ghost before may move.
func TestMovesBelow(t *testing.T) {
	e := mounted(t, "(ul !group !moves (li #a 'x' (ol !group !moves (li #x) (li #y h=2))) (li #b h=3))")
	render(t, e, "(ul !group !moves (li #b h=3) (li #a 'x' (ol !group !moves (li #y h=2) (li #x))))")
	pends(t, e, "frame 2 7 2", "frame 2 2 2", "frame 2 6 2", "frame 2 5 2")
	if look, _ := e.Look(5); look != (dress.Look{Move: away, DX: 0, DY: -5}) {
		t.Errorf("the lower one is %v", look)
	}
	e = mounted(t, "(ul !group !moves (li #a (ol !group !moves (li #x))) (li #b))")
	render(t, e, "(ul !group !moves (li #b))")
	render(t, e, "(ul !group !moves (li #n h=4) (li #b))")
	shows(t, e, "(1:ul (2:li .t-leave-from .t-leave-active @t-ghost= (3:ol (4:li))) (6:li .t-enter-from .t-enter-active h=4) (5:li .t-move t-dx=0 t-dy=-4))")
	e = mounted(t, "(p (p #k) (ul #g !group !moves (li #a (ol !group !moves (li #x))) (li #b)))")
	render(t, e, "(p (p #k) (ul #g !group !moves (li #b)))")
	render(t, e, "(p (p #k h=2) (ul #g !group !moves (li #b) (li #a (ol !group !moves (li #x)))))")
	shows(t, e, "(1:p (2:p h=2) (3:ul (7:li .t-move t-dx=0 t-dy=-2) (4:li .t-enter-from .t-enter-active (5:ol (6:li .t-move t-dx=0 t-dy=-2)))))")
}

// P27.1: positions are those for the Width.
func TestWidth(t *testing.T) {
	for _, c := range []struct{ width, dx, dy int }{{2, 0, 1}, {9, 1, 0}, {0, 0, 1}, {-7, 0, 1}, {math.MinInt, 0, 1}, {math.MaxInt, 1, 0}} {
		e := engine.New(engine.Config{Nodes: 20, Depth: 5, Ghosts: 3, Timers: 9, Width: c.width})
		e.Mount(parse(t, "(ul !group !moves flow=1 (li #a 'xx') (li #b 'y'))"))
		before := e.Rects()
		e.Render(parse(t, "(ul !group !moves flow=1 (li #b 'y') (li #a 'xx'))"))
		look, _ := e.Look(4)
		if look.DX != 2*c.dx || look.DY != c.dy {
			t.Errorf("for the width %d it is %v", c.width, look)
		}
		was, _ := before.Get(4)
		is, _ := e.Rects().Get(4)
		if x, y := rect.Offset(was, is); x != look.DX || y != look.DY {
			t.Errorf("for the width %d it was at %v and is at %v", c.width, was, is)
		}
	}
}

// Rule 5: what is passed is not changed and not kept, and what is returned is new.
func TestMemory(t *testing.T) {
	e := wide()
	n := parse(t, "(ul .a @b=1 w=3 !group (li #a .c 'x' 'y'))")
	spare := func(n view.Node) view.Node {
		n.Classes = append(make([]string, 0, 9), n.Classes...)
		n.Kids = append(make([]view.Node, 0, 9), n.Kids...)
		return n
	}
	n = spare(n)
	n.Kids[0] = spare(n.Kids[0])
	for _, show := range []func(view.Node) api.Errno{e.Mount, e.Render} {
		copied := parse(t, "(ul .a @b=1 w=3 !group (li #a .c 'x' 'y'))")
		if show(n) != api.OK || !view.Same(n, copied) || n.Classes[:2][1] != "" || n.Kids[:2][1].Tag != "" || len(n.Kids[0].Kids) != 2 {
			t.Errorf("what was passed is %v", n)
		}
		before := state(e)
		m := spare(n)
		m.Classes[0], m.Attrs[0].Value, m.Styles[0].Value = "z", "z", 9
		m.Kids[0].Kids[0].Text = "zz"
		if state(e) != before {
			t.Error("what was passed is kept")
		}
		n = parse(t, "(ul .a @b=1 w=3 !group (li #a .c 'x' 'y'))")
		n = spare(n)
		n.Kids[0] = spare(n.Kids[0])
	}
	e.Render(parse(t, "(ul .a @b=1 w=3 !group (li #b))"))
	before, ops := state(e), slices.Clone(e.Ops())
	v, d, log, jobs, snap, done := e.View(), e.Dom(), e.Hooks(), e.Pending(), e.Rects(), e.Ops()
	v.Classes[0], v.Attrs[0], v.Kids[0].Tag = "z", props.Pair[string]{}, "z"
	d.Remove(1)
	log[0].Key, jobs[0].Left, snap[0].Rect.X, done[0].A = "z", 77, 77, 77
	_ = append(append(log, log[0]), log...)
	if state(e) != before || !slices.Equal(e.Ops(), ops) {
		t.Error("what was returned is kept")
	}
	if e.Cancel(2); e.Hooks()[4].Key != "a" {
		t.Errorf("the hooks are %v", e.Hooks())
	}
}

// P1: views that are not valid, of any numbers, are rejected.
func TestWrong(t *testing.T) {
	e := wide()
	p := func(n view.Node) view.Node { return view.Node{Kind: view.Element, Tag: "p", Kids: []view.Node{n}} }
	for _, n := range []view.Node{{}, {Kind: math.MinInt}, {Kind: 5, Tag: "p"}, {Kind: view.Text, Text: "\x00"}, {Kind: view.Element}, {Kind: view.Group, Tag: "p", Opts: view.Options{Enter: -1}},
		{Kind: view.Slot, Tag: "p", Opts: view.Options{Leave: 1001}}, {Kind: view.Slot, Tag: "p", Opts: view.Options{Mode: 3}}, {Kind: view.Element, Tag: "p", Opts: view.Options{Moves: true}}} {
		for _, n := range []view.Node{n, p(n), p(p(n))} {
			if f := e.Mount(n); f != api.ErrView || e.Mounted() {
				t.Errorf("Mount of %v is %d", n, f)
			}
		}
	}
	e.Mount(parse(t, "(p)"))
	for _, id := range []int{math.MinInt, -1, 0, 2, math.MaxInt} {
		if _, is := e.Look(id); is || e.End(id) != api.ErrNode || e.Cancel(id) != api.ErrNode {
			t.Errorf("%d is an item", id)
		}
	}
}

// P1: as many kids as there may be, which all come, move and go.
func TestLong(t *testing.T) {
	e := engine.New(engine.Config{Nodes: 4096, Depth: 3, Ghosts: 4096, Timers: 4096})
	n := view.Node{Kind: view.Group, Tag: "ul", Opts: view.Options{Enter: 1, Leave: 1, Move: 1, Appear: true, Moves: true}}
	for i := range 4095 {
		n.Kids = append(n.Kids, view.Node{Kind: view.Element, Tag: "li", Key: string([]byte{'a' + byte(i%16), 'a' + byte(i/16%16), 'a' + byte(i/256)}), Styles: props.Map[int]{{Name: "h", Value: 1}}})
	}
	if e.Mount(n) != api.OK || len(e.Pending()) != 4095 {
		t.Fatalf("%d wait", len(e.Pending()))
	}
	twice(e)
	e.Tick(1)
	slices.Reverse(n.Kids)
	if e.Render(n) != api.OK || len(e.Pending()) != 4094 {
		t.Fatalf("%d wait", len(e.Pending()))
	}
	if look, _ := e.Look(4096); look.DY != 4094 || look.Move != away {
		t.Errorf("the last one is %v", look)
	}
	n.Kids = nil
	if e.Render(n) != api.OK || len(e.Pending()) != 4095 {
		t.Fatalf("%d wait", len(e.Pending()))
	}
	twice(e)
	if e.Tick(1); e.Dom().Count() != 1 || len(e.Hooks()) != 7*4095-4095 {
		t.Errorf("there are %d nodes and %d hooks", e.Dom().Count(), len(e.Hooks()))
	}
}
