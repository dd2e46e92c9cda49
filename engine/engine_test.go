package engine_test

import (
	"fmt"
	"math"
	"slices"
	"strings"
	"testing"

	"scrim/api"
	"scrim/dress"
	"scrim/engine"
	"scrim/trail"
	"scrim/view"
)

// wide is an engine that hardly ever rejects anything.
func wide() *engine.Engine {
	return engine.New(engine.Config{Nodes: 200, Depth: 10, Ghosts: 40, Timers: 60, Width: 40})
}

// mounted is a wide engine with a view.
func mounted(t *testing.T, s string) *engine.Engine {
	t.Helper()
	e := wide()
	if f := e.Mount(parse(t, s)); f != api.OK {
		t.Fatalf("Mount of %s is %d", s, f)
	}
	return e
}

func render(t *testing.T, e *engine.Engine, s string) {
	t.Helper()
	if f := e.Render(parse(t, s)); f != api.OK {
		t.Fatalf("Render of %s is %d", s, f)
	}
}

// shows fails unless there are these nodes below the root.
func shows(t *testing.T, e *engine.Engine, want string) {
	t.Helper()
	got := strings.TrimSuffix(strings.TrimPrefix(shown(e), "(0:root"), ")")
	if strings.TrimSpace(got) != want {
		t.Errorf("there is %s, wanted %s", got, want)
	}
}

// told fails unless these hooks were reported after so many others.
func told(t *testing.T, e *engine.Engine, from int, want ...string) {
	t.Helper()
	got := strings.Split(strings.TrimSuffix(e.Hooks()[from:].Text(), "\n"), "\n")
	if len(e.Hooks()) == from {
		got = nil
	}
	if !slices.Equal(got, want) {
		t.Errorf("the hooks are %q, wanted %q", got, want)
	}
}

// pends fails unless these jobs wait: their Kind, their Node, and how long.
func pends(t *testing.T, e *engine.Engine, want ...string) {
	t.Helper()
	var got []string
	for _, p := range e.Pending() {
		if p.Ref.Frame {
			got = append(got, fmt.Sprintf("frame %d %d %d", p.Job.Kind, p.Job.Node, p.Left))
		} else {
			got = append(got, fmt.Sprintf("timer %d %d %d", p.Job.Kind, p.Job.Node, p.Deadline))
		}
	}
	if !slices.Equal(got, want) {
		t.Errorf("%q wait, wanted %q", got, want)
	}
}

// does fails unless the last call has changed the nodes so.
func does(t *testing.T, e *engine.Engine, want ...trail.Op) {
	t.Helper()
	if got := e.Ops(); !slices.Equal(got, want) {
		t.Errorf("the Ops are %v, wanted %v", got, want)
	}
}

func twice(e *engine.Engine) {
	e.Frame()
	e.Frame()
}

// P27.1 and P27.7: the document's example, with all that it changes.
func TestExample(t *testing.T) {
	e := mounted(t, "(ul !group !enter=3 !leave=2 (li #a))")
	does(t, e, trail.Op{Kind: trail.Element, A: 1, Name: "ul"}, trail.Op{Kind: trail.Element, A: 2, Name: "li"}, trail.Op{Kind: trail.Insert, A: 1, C: 2}, trail.Op{Kind: trail.Insert, C: 1})
	render(t, e, "(ul !group !enter=3 !leave=2 (li #b))")
	shows(t, e, "(1:ul (2:li .t-leave-from .t-leave-active @t-ghost=) (3:li .t-enter-from .t-enter-active))")
	does(t, e, trail.Op{Kind: trail.Class, A: 2, Name: "t-leave-from"}, trail.Op{Kind: trail.Class, A: 2, Name: "t-leave-active"}, trail.Op{Kind: trail.Attr, A: 2, Name: "t-ghost"},
		trail.Op{Kind: trail.Element, A: 3, Name: "li"}, trail.Op{Kind: trail.Class, A: 3, Name: "t-enter-from"}, trail.Op{Kind: trail.Class, A: 3, Name: "t-enter-active"}, trail.Op{Kind: trail.Insert, A: 1, B: 1, C: 3})
	pends(t, e, "frame 1 2 2", "frame 1 3 2")
	e.Frame()
	does(t, e)
	pends(t, e, "frame 1 2 1", "frame 1 3 1")
	e.Frame()
	shows(t, e, "(1:ul (2:li .t-leave-active .t-leave-to @t-ghost=) (3:li .t-enter-active .t-enter-to))")
	pends(t, e, "timer 1 2 2", "timer 1 3 3")
	e.Tick(2)
	shows(t, e, "(1:ul (3:li .t-enter-active .t-enter-to))")
	does(t, e, trail.Op{Kind: trail.Remove, A: 2})
	e.Tick(1)
	shows(t, e, "(1:ul (3:li))")
	does(t, e, trail.Op{Kind: trail.NoClass, A: 3, Name: "t-enter-active"}, trail.Op{Kind: trail.NoClass, A: 3, Name: "t-enter-to"})
	told(t, e, 0, "1 a 2 before-leave", "1 a 2 leave", "1 b 3 before-enter", "1 b 3 enter", "1 a 2 after-leave", "1 b 3 after-enter")
	if pends(t, e); e.Now() != 3 || e.Longest() != 3 {
		t.Errorf("the clock is %d, and the longest duration %d", e.Now(), e.Longest())
	}
}

// P27.1: nothing is mounted after New, and before the first call there are no Ops.
func TestNew(t *testing.T) {
	e := wide()
	if e.Mounted() || !view.Same(e.View(), view.Node{}) || len(e.Hooks()) > 0 || e.Now() != 0 || e.Longest() != 0 {
		t.Error("a new engine has something")
	}
	if pends(t, e); shown(e) != "(0:root)" {
		t.Errorf("there is %s", shown(e))
	}
	if _, is := e.Look(0); is {
		t.Error("the root has a look")
	}
	if does(t, e); len(e.Rects()) != 1 || e.Rects()[0].Rect.W != 40 {
		t.Errorf("the positions are %v", e.Rects())
	}
	if e.Render(parse(t, "'x'")) != api.ErrMount || e.Unmount() != api.ErrMount || e.End(1) != api.ErrNode || e.Cancel(0) != api.ErrNode || e.Tick(-1) != api.ErrArg {
		t.Error("without anything mounted there is something")
	}
	if e.Frame(); e.Tick(5) != api.OK || e.Now() != 5 {
		t.Errorf("the clock is %d", e.Now())
	}
}

// P27.1 and P27.6: the first error that applies; then the last Ops remain.
func TestErrorsInOrder(t *testing.T) {
	e := engine.New(engine.Config{Nodes: 4, Depth: 2, Ghosts: 1, Timers: 1, Width: 20})
	bad := []struct {
		s string
		e api.Errno
	}{
		{"(p (p (p)))", api.ErrDepth}, {"(p (p) (p) (p) (p))", api.ErrNodes}, {"(p !group 'x')", api.ErrView}, {"(p .t-x)", api.ErrName}, {"(p (p #a) (p #a))", api.ErrKey},
		{"(p 'x' 'x' 'x' 'x')", api.ErrNodes}, {"(p .t-x (p (p)) (p #a) (p #a))", api.ErrName},
	}
	for _, b := range bad {
		if f := e.Render(parse(t, b.s)); f != api.ErrMount {
			t.Errorf("Render of %s without anything mounted is %d", b.s, f)
		}
		if f := e.Mount(parse(t, b.s)); f != b.e || e.Mounted() {
			t.Errorf("Mount of %s is %d, wanted %d", b.s, f, b.e)
		}
	}
	if f := e.Mount(parse(t, "(ul !group !appear (li #a) (li #b))")); f != api.ErrTimers || e.Mounted() || e.Dom().Next() != 1 || len(e.Hooks()) > 0 || len(e.Pending()) > 0 {
		t.Errorf("two that appear: %d", f)
	}
	if f := e.Mount(parse(t, "(ul !group (li #a) (li #b))")); f != api.OK {
		t.Errorf("a Mount is %d", f)
	}
	before, ops := state(e), e.Ops()
	bad = append(bad, []struct {
		s string
		e api.Errno
	}{
		{"(ul !group (li #c) (li #d) (li #e))", api.ErrNodes}, {"(ul !group)", api.ErrGhosts}, {"(ul !group (li #c))", api.ErrGhosts},
		{"(ul !group (li #a) (li #c))", api.ErrTimers}, {"(ul !group !moves pad=1 (li #a) (li #b))", api.ErrTimers},
	}...)
	for _, b := range bad {
		if f := e.Mount(parse(t, b.s)); f != api.ErrThere {
			t.Errorf("Mount of %s again is %d", b.s, f)
		}
		if f := e.Render(parse(t, b.s)); f != b.e || state(e) != before || !slices.Equal(e.Ops(), ops) {
			t.Errorf("Render of %s is %d, wanted %d", b.s, f, b.e)
		}
	}
	if e.Tick(-1) != api.ErrArg || e.Tick(math.MinInt) != api.ErrArg || e.End(9) != api.ErrNode || e.Cancel(-1) != api.ErrNode || state(e) != before || !slices.Equal(e.Ops(), ops) {
		t.Error("an error has changed something")
	}
	render(t, e, "(ul !group (li #a) (li #b) (li #c))")
	if d := e.Dom(); d.Next() != 5 {
		t.Errorf("the next node is %d", d.Next())
	}
}

// P27.1: the nodes that are counted are those that there are in the end; a Text that
// is not shown counts for Check only.
func TestBounds(t *testing.T) {
	e := engine.New(engine.Config{Nodes: 3, Depth: 3, Ghosts: 3, Timers: 3})
	e.Mount(parse(t, "(p (p #a) (p #b))"))
	if f := e.Render(parse(t, "(p (p #c) (p #d))")); f != api.OK {
		t.Errorf("other kids are %d", f)
	}
	if f := e.Render(parse(t, "(ul !group (p #c) (p #d))")); f != api.OK {
		t.Errorf("another Kind is %d", f)
	}
	if f := e.Render(parse(t, "(ul !group (p #c) (p #e))")); f != api.ErrNodes {
		t.Errorf("four nodes with a ghost are %d", f)
	}
	if f := e.Render(parse(t, "(ul !group)")); f != api.OK {
		t.Errorf("two ghosts are %d", f)
	}
	if f := e.Render(parse(t, "(ul !group (p #c) (p #d))")); f != api.OK || e.Dom().Count() != 3 {
		t.Errorf("two that return are %d", f)
	}
}

// P27.1: every number of a Config is limited.
func TestConfig(t *testing.T) {
	deep := func(n int) view.Node {
		v := view.Node{Kind: view.Element, Tag: "p"}
		for range n - 1 {
			v = view.Node{Kind: view.Element, Tag: "p", Kids: []view.Node{v}}
		}
		return v
	}
	broad := func(n int) view.Node {
		return view.Node{Kind: view.Element, Tag: "p", Kids: slices.Repeat([]view.Node{{Kind: view.Element, Tag: "p"}}, n-1)}
	}
	for _, c := range []engine.Config{{}, {Nodes: -5, Depth: -5, Ghosts: -5, Timers: -5, Width: -5}, {Nodes: math.MinInt, Depth: math.MinInt, Ghosts: math.MinInt, Timers: math.MinInt, Width: math.MinInt}} {
		e := engine.New(c)
		if e.Mount(deep(2)) != api.ErrDepth || e.Mount(broad(1)) != api.OK || e.Rects()[1].Rect.W != 0 {
			t.Errorf("with %v there is room", c)
		}
		e = engine.New(engine.Config{Nodes: 9, Depth: 9, Ghosts: c.Ghosts, Timers: 9})
		e.Mount(parse(t, "(p !group (p #a) (p #b))"))
		if e.Render(parse(t, "(p !group (p #a))")) != api.ErrGhosts || e.Render(parse(t, "(p !group (p #c) (p #b) (p #a))")) != api.OK {
			t.Errorf("with %v there are ghosts", c)
		}
		e = engine.New(engine.Config{Nodes: c.Nodes, Depth: 9})
		if e.Mount(broad(2)) != api.ErrNodes {
			t.Errorf("with %v there are nodes", c)
		}
		e = engine.New(engine.Config{Nodes: 9, Depth: 9, Timers: c.Timers, Ghosts: 9})
		if e.Mount(parse(t, "(p !group !appear (p #a))")) != api.ErrTimers {
			t.Errorf("with %v there are timers", c)
		}
	}
	for _, c := range []engine.Config{{Nodes: 4096, Depth: 20, Ghosts: 4096, Timers: 4096}, {Nodes: math.MaxInt, Depth: math.MaxInt, Ghosts: math.MaxInt, Timers: math.MaxInt, Width: math.MaxInt}} {
		e := engine.New(c)
		if e.Mount(deep(21)) != api.ErrDepth || e.Mount(broad(4097)) != api.ErrNodes || e.Mount(broad(4096)) != api.OK || e.Render(deep(20)) != api.OK {
			t.Errorf("with %v there is no room, or too much", c)
		}
	}
}

// P1: a zero Engine is like a new one of a zero Config.
func TestZero(t *testing.T) {
	if a, b := state(&engine.Engine{}), state(engine.New(engine.Config{})); a != b {
		t.Errorf("a zero Engine is\n%s\nand a new one\n%s", a, b)
	}
	for _, do := range []func(e *engine.Engine) any{
		func(e *engine.Engine) any { return e.Mount(parse(t, "(p)")) },
		func(e *engine.Engine) any { return e.Mount(parse(t, "(p 'x')")) },
		func(e *engine.Engine) any { return e.Render(parse(t, "(p)")) },
		func(e *engine.Engine) any { return e.Unmount() },
		func(e *engine.Engine) any { return e.Tick(7) },
		func(e *engine.Engine) any { e.Frame(); return nil },
		func(e *engine.Engine) any { return e.End(1) },
		func(e *engine.Engine) any { return e.Cancel(1) },
		func(e *engine.Engine) any { return len(e.Ops()) },
	} {
		a, b := &engine.Engine{}, engine.New(engine.Config{})
		if x, y := do(a), do(b); x != y || state(a) != state(b) {
			t.Errorf("a zero Engine answers %v, a new one %v", x, y)
		}
	}
	e := &engine.Engine{}
	if e.Mount(parse(t, "'x'")) != api.OK || e.Render(parse(t, "(p)")) != api.OK || e.Unmount() != api.OK || e.Dom().Next() != 3 {
		t.Error("a zero Engine does not work")
	}
}

// P27.1: a view of another Kind is another node, also at the top; one of the same Kind
// is the same node, whatever its key is.
func TestKinds(t *testing.T) {
	e := mounted(t, "'x'")
	render(t, e, "'y'")
	shows(t, e, "1:'y'")
	does(t, e, trail.Op{Kind: trail.Say, A: 1, Value: "y"})
	render(t, e, "(p #a .on 'x')")
	shows(t, e, "(2:p .on 3:'x')")
	if got := e.Ops(); len(got) != 6 || got[0] != (trail.Op{Kind: trail.Remove, A: 1}) || got[5] != (trail.Op{Kind: trail.Insert, C: 2}) {
		t.Errorf("the Ops are %v", got)
	}
	render(t, e, "(div #b w=2 'x' (p))")
	shows(t, e, "(2:div w=2 3:'x' (4:p))")
	for i, s := range []string{"(p !group)", "(p !slot)", "(p)"} {
		render(t, e, s)
		shows(t, e, fmt.Sprintf("(%d:p)", 5+i))
	}
}

// P27.1: kids of an Element are there at once, or not any more: first those are
// destroyed that no new one has, and then each new one is patched or created.
func TestElement(t *testing.T) {
	e := mounted(t, "(p (a #x) 'one' (b) (c #y))")
	shows(t, e, "(1:p (2:a) 3:'one' (4:b) (5:c))")
	render(t, e, "(p (c #y .on) 'two' (d) 'three' (a #z))")
	shows(t, e, "(1:p (5:c .on) 3:'two' (4:d) 6:'three' (7:a))")
	does(t, e, trail.Op{Kind: trail.Remove, A: 2}, trail.Op{Kind: trail.Class, A: 5, Name: "on"}, trail.Op{Kind: trail.Say, A: 3, Value: "two"}, trail.Op{Kind: trail.Tag, A: 4, Name: "d"},
		trail.Op{Kind: trail.Text, A: 6, Value: "three"}, trail.Op{Kind: trail.Element, A: 7, Name: "a"},
		trail.Op{Kind: trail.Insert, A: 1, B: 3, C: 7}, trail.Op{Kind: trail.Insert, A: 1, B: 3, C: 6}, trail.Op{Kind: trail.Move, A: 5, B: 0})
	render(t, e, "(p (c #y .on) '' 'two' (d) 'th' 'ree' (a #z))")
	if does(t, e); !view.Same(e.View(), parse(t, "(p (c #y .on) 'two' (d) 'three' (a #z))")) {
		t.Errorf("the view is %v", e.View())
	}
	told(t, e, 0)
}

// P27.1: a new kid of an Element is created with those that appear; a kid of the same
// key and another Kind is another one.
func TestElementCreates(t *testing.T) {
	e := mounted(t, "(p (a #x (b #k)))")
	render(t, e, "(p (a #x !slot !appear !enter=4 (b #k)) (c #y !group (d #l)))")
	shows(t, e, "(1:p (4:a (5:b .t-enter-from .t-enter-active)) (6:c (7:d)))")
	told(t, e, 0, "4 k 5 before-enter", "4 k 5 enter")
	pends(t, e, "frame 1 5 2")
	render(t, e, "(p (a #x !slot (b #k)))")
	shows(t, e, "(1:p (4:a (5:b .t-enter-from .t-enter-active)))")
	render(t, e, "(p)")
	told(t, e, 2, "4 k 5 enter-cancelled")
	pends(t, e)
}

// P27.1: with Appear, each kid enters after all below it, and kids in their order.
func TestAppear(t *testing.T) {
	e := mounted(t, "(ul !group !appear !enter=2 (li #a (ol !group !appear (li #x) (li #y))) (li #b (ol !slot (li #z))) (li #c (ol !slot !appear (li #z))))")
	told(t, e, 0, "3 x 4 before-enter", "3 x 4 enter", "3 y 5 before-enter", "3 y 5 enter", "1 a 2 before-enter", "1 a 2 enter", "1 b 6 before-enter", "1 b 6 enter",
		"10 z 11 before-enter", "10 z 11 enter", "1 c 9 before-enter", "1 c 9 enter")
	pends(t, e, "frame 1 4 2", "frame 1 5 2", "frame 1 2 2", "frame 1 6 2", "frame 1 11 2", "frame 1 9 2")
	if look, is := e.Look(8); !is || look != (dress.Look{}) {
		t.Errorf("without Appear there is %v", look)
	}
	e = mounted(t, "(ul !group !appear (li #a (ol !group !appear (li #x))))")
	e.End(2)
	e.Cancel(2)
	told(t, e, 4, "1 a 2 enter-cancelled")
	if look, is := e.Look(2); !is || look != (dress.Look{}) || e.End(9) != api.ErrNode {
		t.Errorf("after Cancel there is %v", look)
	}
}

// P27.1: first those leave that are not required, in their order; then each key comes
// in turn, with all that changes below it.
func TestGroup(t *testing.T) {
	e := mounted(t, "(ul !group (li #a) (li #b 'x') (li #c) (li #d))")
	render(t, e, "(ul !group !enter=5 !leave=6 (li #e (ol !group !appear (li #x))) (li #b 'y') (li #f))")
	shows(t, e, "(1:ul (2:li .t-leave-from .t-leave-active @t-ghost=) (7:li .t-enter-from .t-enter-active (8:ol (9:li .t-enter-from .t-enter-active)))"+
		" (3:li 4:'y') (5:li .t-leave-from .t-leave-active @t-ghost=) (6:li .t-leave-from .t-leave-active @t-ghost=) (10:li .t-enter-from .t-enter-active))")
	told(t, e, 0, "1 a 2 before-leave", "1 a 2 leave", "1 c 5 before-leave", "1 c 5 leave", "1 d 6 before-leave", "1 d 6 leave",
		"8 x 9 before-enter", "8 x 9 enter", "1 e 7 before-enter", "1 e 7 enter", "1 f 10 before-enter", "1 f 10 enter")
	twice(e)
	pends(t, e, "timer 1 9 0", "timer 1 7 5", "timer 1 10 5", "timer 1 2 6", "timer 1 5 6", "timer 1 6 6")
}

// P27.1: a kid that returns keeps its node and enters again; what it was to show is
// shown before that.
func TestReturn(t *testing.T) {
	e := mounted(t, "(ul !group !leave=5 (li #a) (li #b))")
	render(t, e, "(ul !group !leave=5 (li #b))")
	render(t, e, "(ul !group !leave=5 !enter=2 (li #b) (li #a .on (ol !group !appear (li #x))))")
	shows(t, e, "(1:ul (3:li) (2:li .on .t-enter-from .t-enter-active (4:ol (5:li .t-enter-from .t-enter-active))))")
	told(t, e, 0, "1 a 2 before-leave", "1 a 2 leave", "1 a 2 leave-cancelled", "4 x 5 before-enter", "4 x 5 enter", "1 a 2 before-enter", "1 a 2 enter")
	pends(t, e, "frame 1 5 2", "frame 1 2 2")
	twice(e)
	render(t, e, "(ul !group !leave=5 !enter=9 (li #b) (li #a))")
	pends(t, e, "timer 1 2 2")
	e.Tick(2)
	shows(t, e, "(1:ul (3:li) (2:li))")
}

// P27.1 and P27.5: whatever is below a kid that is gone is settled before that is told.
func TestGone(t *testing.T) {
	for _, vanish := range []func(e *engine.Engine){
		func(e *engine.Engine) { twice(e); e.Tick(1) },
		func(e *engine.Engine) { twice(e); e.End(2) },
		func(e *engine.Engine) { e.Cancel(2) },
	} {
		e := mounted(t, "(ul !group !leave=1 (li #a (ol !group !leave=9 (li #x) (li #y (dl !slot !in-out !enter=9 (dd #v))))))")
		render(t, e, "(ul !group !leave=1 (li #a (ol !group !leave=9 !enter=9 (li #z) (li #y (dl !slot !in-out !enter=9 (dd #w))))))")
		render(t, e, "(ul !group !leave=1)")
		from := len(e.Hooks())
		vanish(e)
		told(t, e, from, "3 x 4 after-leave", "3 z 8 enter-cancelled", "6 w 9 enter-cancelled", "1 a 2 after-leave")
		shows(t, e, "(1:ul)")
		if pends(t, e); e.Dom().Count() != 1 {
			t.Errorf("there are %d nodes", e.Dom().Count())
		}
	}
}

// P27.1: what is destroyed is settled, kids before the node that has them; the hooks
// of a kid that waits or is held are none.
func TestUnmount(t *testing.T) {
	e := mounted(t, "(p (ul !group !leave=2 !appear (li #a (ol !slot !out-in (li #u)))) (dl !slot !in-out (dd #k)))")
	render(t, e, "(p (ul !group !leave=2 !appear (li #a (ol !slot !out-in (li #v)))) (dl !slot !in-out (dd #l)))")
	shows(t, e, "(1:p (2:ul (3:li .t-enter-from .t-enter-active (4:ol (5:li .t-leave-from .t-leave-active @t-ghost=) (8:li .t-wait))))"+
		" (6:dl (7:dd .t-hold @t-ghost=) (9:dd .t-enter-from .t-enter-active)))")
	from := len(e.Hooks())
	if e.Unmount() != api.OK || e.Mounted() || !view.Same(e.View(), view.Node{}) || e.Longest() != 2 {
		t.Error("Unmount has left something")
	}
	told(t, e, from, "4 u 5 after-leave", "2 a 3 enter-cancelled", "6 l 9 enter-cancelled")
	pends(t, e)
	shows(t, e, "")
	does(t, e, trail.Op{Kind: trail.Remove, A: 1})
	if e.Mount(parse(t, "(p !group !enter=1)")) != api.OK || e.Longest() != 2 || e.Dom().Next() != 11 {
		t.Errorf("the longest duration is %d", e.Longest())
	}
}
