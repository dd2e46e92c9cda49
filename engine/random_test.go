package engine_test

import (
	"fmt"
	"math/rand"
	"slices"
	"strings"
	"testing"

	"scrim/api"
	"scrim/arena"
	"scrim/dress"
	"scrim/engine"
	"scrim/notation"
	"scrim/still"
	"scrim/trail"
	"scrim/view"
)

// parse returns the view that is written so, valid or not.
func parse(t *testing.T, s string) view.Node {
	t.Helper()
	n, at, e := notation.Parse(s)
	if e != api.OK {
		t.Fatalf("%s is no view: %d at %d", s, e, at)
	}
	return n
}

// shown is the root with all below it as a text.
func shown(e *engine.Engine) string {
	x, _ := still.Read(e.Dom(), 0)
	return x.Show(true)
}

// state is everything that can be asked of an engine, but for its Ops.
func state(e *engine.Engine) string {
	var b strings.Builder
	d := e.Dom()
	for id := -1; id <= d.Next(); id++ {
		n, there := d.Get(id)
		look, has := e.Look(id)
		fmt.Fprintln(&b, n, there, look, has)
	}
	fmt.Fprintln(&b, d.Next(), d.Count(), e.Mounted(), e.View(), e.Hooks(), e.Now(), e.Pending(), e.Rects(), e.Longest())
	return b.String()
}

// caller is what both an engine and its model can be asked to do.
type caller interface {
	Mount(view.Node) api.Errno
	Render(view.Node) api.Errno
	Unmount() api.Errno
	Tick(int) api.Errno
	Frame()
	End(int) api.Errno
	Cancel(int) api.Errno
}

// act is one call; name tells it.
type act struct {
	name string
	do   func(caller) api.Errno
}

// anyAct is a call that comes by chance; last is the number of the last node.
func anyAct(r *rand.Rand, mounted bool, last int, some func() view.Node) act {
	id, n, steps := r.Intn(last+3)-1, some(), r.Intn(4)
	shows := act{"Render " + notation.Print(n), func(c caller) api.Errno { return c.Render(n) }}
	if mounted == (r.Intn(20) == 0) {
		shows = act{"Mount " + notation.Print(n), func(c caller) api.Errno { return c.Mount(n) }}
	}
	switch roll := r.Intn(100); {
	case roll < 40 || !mounted && roll < 90:
		return shows
	case roll < 60:
		return act{"Frame", func(c caller) api.Errno { c.Frame(); return api.OK }}
	case roll < 78:
		return act{fmt.Sprint("Tick ", steps-roll/77), func(c caller) api.Errno { return c.Tick(steps - roll/77) }}
	case roll < 88:
		return act{fmt.Sprint("End ", id), func(c caller) api.Errno { return c.End(id) }}
	case roll < 98:
		return act{fmt.Sprint("Cancel ", id), func(c caller) api.Errno { return c.Cancel(id) }}
	}
	return act{"Unmount", func(c caller) api.Errno { return c.Unmount() }}
}

// like fails unless an engine is like its model.
func like(t *testing.T, did []string, e *engine.Engine, m *model) {
	t.Helper()
	fail := func(what string, got, want any) {
		t.Fatalf("after %s\n%s\ngot    %v\nwanted %v", strings.Join(did, "\n"), what, got, want)
	}
	if got, want := shown(e), m.tree().Show(true); got != want {
		fail("the nodes", got, want)
	}
	if got := e.Hooks().Text(); got != m.hooks {
		fail("the hooks", got, m.hooks)
	}
	if got, want := e.Pending(), m.pending(); !slices.Equal(got, want) {
		fail("what waits", got, want)
	}
	if e.Now() != m.now || e.Longest() != m.longest || e.Mounted() != (m.top != nil) || !view.Same(e.View(), m.view) {
		fail("the rest", fmt.Sprint(e.Now(), e.Longest(), e.Mounted(), e.View()), fmt.Sprint(m.now, m.longest, m.top != nil, m.view))
	}
	if !e.Rects().Same(m.rects()) {
		fail("the positions", e.Rects(), m.rects())
	}
	d := e.Dom()
	if d.Next() != m.next+1 || d.Count() != len(m.top.all()) {
		fail("the number of nodes", d.Next(), m.next+1)
	}
	for id := -1; id <= d.Next(); id++ {
		got, there := e.Look(id)
		want := dress.Look{}
		a := m.find(id)
		if a != nil {
			want = dress.Look{Kind: a.kind, Move: a.move, DX: a.dx, DY: a.dy}
		}
		if got != want || there != (a != nil) {
			fail(fmt.Sprint("the look of ", id), got, want)
		}
	}
}

// configs are some that are within their ranges; the last ones hardly ever reject.
func configs() []engine.Config {
	return []engine.Config{{Nodes: 8, Depth: 4, Ghosts: 2, Timers: 3, Width: 9}, {Nodes: 15, Depth: 5, Ghosts: 3, Timers: 5, Width: 20}, {Nodes: 30, Depth: 4, Ghosts: 20, Timers: 4, Width: 5}, {Nodes: 4096, Depth: 20, Ghosts: 4096, Timers: 4096, Width: 30}, {Nodes: 4096, Depth: 20, Ghosts: 4096, Timers: 4096, Width: 12}}
}

// someView is a view by chance, which hardly ever is not valid.
func someView(t *testing.T, r *rand.Rand) view.Node {
	if r.Intn(30) == 0 {
		return parse(t, choose(r, "(p .t-x)", "(p (p #a) (p #a))", strings.Repeat("(p ", 21)+strings.Repeat(")", 21), "(ul !group 'x')", "(p !slot (p #a) (p #b))"))
	}
	return parse(t, written(r, 4, "", false))
}

// similar is a view by chance of which only the kids of one Group or Slot differ; with
// another base it is any view whose top is an Element.
func similar(t *testing.T, r *rand.Rand, base string) view.Node {
	kid := func(key string) string {
		return "(li #" + key + choose(r, "", " h=2", " 'x'", " .on 'y'", " (ol !group !appear !moves !leave=2"+choose(r, " (li #x 'x')", " (li #y) (li #x 'z')", "")+")", " (p !slot !in-out !leave=1 !enter=1"+choose(r, " (p #u)", " (p #v)", "")+")") + ")"
	}
	var kids []string
	switch base {
	case "group":
		for _, n := range r.Perm(4)[:r.Intn(5)] {
			kids = append(kids, kid(string(rune('a'+n))))
		}
		return parse(t, "(div 'top' (ul !group !moves !move=2 !enter=2 !leave=3 "+strings.Join(kids, " ")+") 'bottom')")
	case "slot":
		if r.Intn(6) > 0 {
			kids = append(kids, kid(choose(r, "a", "b", "c")))
		}
		return parse(t, "(div !slot !enter=2 !leave=3 "+choose(r, "", "!out-in", "!in-out")+" "+strings.Join(kids, " ")+")")
	}
	return view.Node{Kind: view.Element, Tag: "p", Kids: []view.Node{someView(t, r), someView(t, r)}}
}

// nodes is every node of a Dom as a text, and what comes next.
func nodes(d *arena.Dom) string {
	var b strings.Builder
	for id := range d.Next() {
		n, there := d.Get(id)
		fmt.Fprintln(&b, n, there)
	}
	return fmt.Sprint(b.String(), d.Next(), d.Order())
}

// replayed fails unless the Ops lead from the previous nodes to those of an engine.
func replayed(t *testing.T, did []string, before *arena.Dom, e *engine.Engine) {
	t.Helper()
	was, ops := nodes(before), e.Ops()
	if n, f := trail.Replay(before, ops); n != len(ops) || f != api.OK || nodes(before) != nodes(e.Dom()) {
		t.Fatalf("after %s\nthe Ops %v, replayed on\n%s\nlead to %d, %d and\n%s", strings.Join(did, "\n"), ops, was, n, f, nodes(before))
	}
}

// P27.1, P27.6 and P27.7: any calls, with all that can be asked after each.
func TestAgainstModel(t *testing.T) {
	errors := map[api.Errno]int{}
	for seed := range int64(600) {
		r := rand.New(rand.NewSource(seed))
		c := choose(r, configs()...)
		e, m := engine.New(c), modelOf(c)
		some := func() view.Node { return someView(t, r) }
		if r.Intn(2) == 0 {
			base := choose(r, "group", "slot", "")
			some = func() view.Node { return similar(t, r, base) }
		}
		var did []string
		for range 30 {
			before, was, ops := e.Dom(), state(e), e.Ops()
			a := anyAct(r, e.Mounted(), before.Next(), some)
			did = append(did, a.name)
			got, want := a.do(e), a.do(m)
			errors[got]++
			if got != want {
				t.Fatalf("after %s: the error %d, wanted %d", strings.Join(did, "\n"), got, want)
			}
			if got != api.OK && (state(e) != was || !slices.Equal(e.Ops(), ops)) {
				t.Fatalf("after %s: with the error %d there is\n%s\nwhere there was\n%s", strings.Join(did, "\n"), got, state(e), was)
			}
			if got == api.OK {
				replayed(t, did, before, e)
			}
			like(t, did, e, m)
		}
	}
	for _, e := range []api.Errno{api.OK, api.ErrArg, api.ErrThere, api.ErrMount, api.ErrNode, api.ErrDepth, api.ErrNodes, api.ErrGhosts, api.ErrTimers, api.ErrView, api.ErrName, api.ErrKey} {
		if errors[e] < 20 {
			t.Errorf("the error %d came %d times only", e, errors[e])
		}
	}
}
