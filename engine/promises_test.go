package engine_test

import (
	"math/rand"
	"slices"
	"strings"
	"testing"

	"scrim/api"
	"scrim/arena"
	"scrim/dress"
	"scrim/engine"
	"scrim/hooks"
	"scrim/rect"
	"scrim/still"
	"scrim/view"
)

// lives calls an engine by chance, and calls back after each call that returned OK.
func lives(t *testing.T, seed int64, calls int, look func(*rand.Rand, *engine.Engine, act)) *engine.Engine {
	r := rand.New(rand.NewSource(seed))
	e := engine.New(choose(r, configs()...))
	base := choose(r, "group", "slot", "", "any")
	some := func() view.Node {
		if base == "any" {
			return someView(t, r)
		}
		return similar(t, r, base)
	}
	for range calls {
		a := anyAct(r, e.Mounted(), e.Dom().Next(), some)
		if a.do(e) == api.OK {
			look(r, e, a)
		}
	}
	return e
}

func noLook(*rand.Rand, *engine.Engine, act) {}

// read is the root with all below it.
func read(e *engine.Engine) still.Tree {
	x, _ := still.Read(e.Dom(), 0)
	return x
}

// P27.2: without what is reserved, there is what was shown last, or nothing.
func TestErased(t *testing.T) {
	marked := 0
	for seed := range int64(300) {
		var last []still.Tree
		lives(t, seed, 30, func(_ *rand.Rand, e *engine.Engine, a act) {
			switch {
			case a.name == "Unmount":
				last = nil
			case strings.Contains(a.name, "ount ") || strings.HasPrefix(a.name, "Render "):
				last = []still.Tree{still.Of(parse(t, a.name[strings.Index(a.name, " ")+1:]))}
			}
			x := read(e)
			bare, _ := x.Erase()
			if !slices.EqualFunc(bare.Kids, last, still.Same) || e.Mounted() != (last != nil) {
				t.Fatalf("after %s there is %s", a.name, x.Show(true))
			}
			if !still.Same(x, bare) {
				marked++
			}
		})
	}
	if marked < 1000 {
		t.Errorf("only %d times there was anything reserved", marked)
	}
}

// P27.3: after four Frames, and twice the longest duration plus one ticks, nothing
// waits and nothing is reserved.
func TestRests(t *testing.T) {
	busy := 0
	for seed := range int64(600) {
		e := lives(t, seed, 5+int(seed%40), noLook)
		busy += len(e.Pending())
		for range 4 {
			e.Frame()
		}
		e.Tick(2*e.Longest() + 1)
		x := read(e)
		bare, _ := x.Erase()
		if !still.Same(x, bare) || len(e.Pending()) > 0 {
			t.Fatalf("with %d there is %s, and %v waits", seed, x.Show(true), e.Pending())
		}
		for _, id := range x.IDs() {
			if look, _ := e.Look(id); look != (dress.Look{}) {
				t.Fatalf("with %d, %d is %v", seed, id, look)
			}
		}
	}
	if busy < 500 {
		t.Errorf("only %d jobs waited", busy)
	}
}

// member is a kid of a Group that is no ghost: where it is, and how.
type member struct {
	id   int
	at   rect.Rect
	look dress.Look
}

// members are the kids of all Groups of an engine, by the Group and the key, and
// whether the Group has Moves. The engine tells keys by its View only, whose kids come
// in the order of the nodes that are no ghosts.
func members(e *engine.Engine) map[[2]int]map[string]member {
	all, snap, d := map[[2]int]map[string]member{}, e.Rects(), e.Dom()
	var visit func(n view.Node, id int)
	visit = func(n view.Node, id int) {
		node, _ := d.Get(id)
		at := 0
		for _, kid := range node.Kids {
			look, _ := e.Look(kid)
			if look.Ghost() {
				continue
			}
			if n.Kind == view.Group {
				moves := 0
				if n.Opts.Moves {
					moves = 1
				}
				if all[[2]int{id, moves}] == nil {
					all[[2]int{id, moves}] = map[string]member{}
				}
				r, _ := snap.Get(kid)
				all[[2]int{id, moves}][n.Kids[at].Key] = member{kid, r, look}
			}
			visit(n.Kids[at], kid)
			at++
		}
	}
	if root, _ := d.Get(0); e.Mounted() {
		visit(e.View(), root.Kids[0])
	}
	return all
}

// P27.4: a key that is still required keeps its node, which is, with its offset, where
// it was; after the second Frame it has none.
func TestKept(t *testing.T) {
	kept, moved := 0, 0
	for seed := range int64(900) {
		var before map[[2]int]map[string]member
		lives(t, seed, 40, func(r *rand.Rand, e *engine.Engine, a act) {
			was, is := before, members(e)
			before = is
			if !strings.HasPrefix(a.name, "Render ") {
				return
			}
			for group, kids := range is {
				for key, kid := range kids {
					old, there := was[group][key]
					if !there {
						continue
					}
					kept++
					if old.id != kid.id {
						t.Fatalf("after %s the key %s of %d has the node %d instead of %d", a.name, key, group[0], kid.id, old.id)
					}
					dx, dy := rect.Offset(old.at, kid.at)
					if group[1] == 1 && kid.look.Kind == dress.Still && (dx != 0 || dy != 0) {
						moved++
						if shifted := kid.at.At(kid.look.DX, kid.look.DY); kid.look.Move != dress.Away || shifted.X != old.at.X || shifted.Y != old.at.Y {
							t.Fatalf("after %s the node %d, which was at %v and is at %v, is %v", a.name, kid.id, old.at, kid.at, kid.look)
						}
					}
				}
			}
			if r.Intn(4) == 0 {
				e.Frame()
				e.Frame()
				for _, id := range e.Dom().Order() {
					if look, _ := e.Look(id); look.Move == dress.Away || look.DX != 0 || look.DY != 0 {
						t.Fatalf("after two Frames %d is %v", id, look)
					}
				}
				before = members(e)
			}
		})
	}
	if kept < 2000 || moved < 300 {
		t.Errorf("%d were kept, and %d of them moved", kept, moved)
	}
}

// leavers are the nodes that leave.
func leavers(e *engine.Engine) []int {
	var l []int
	for _, id := range e.Dom().Order() {
		if look, _ := e.Look(id); look.Leaving() {
			l = append(l, id)
		}
	}
	return l
}

// P27.5: the hooks of each key are permitted, and whoever leaves is removed exactly at
// its after-leave.
func TestWords(t *testing.T) {
	var counts [9]int
	for seed := range int64(400) {
		var leave []int
		told := 0
		e := lives(t, seed, 40, func(_ *rand.Rand, e *engine.Engine, a act) {
			log := e.Hooks()
			if !log.Check() {
				t.Fatalf("after %s the hooks are\n%s", a.name, log.Text())
			}
			var left []int
			for _, entry := range log[told:] {
				counts[entry.Hook]++
				if entry.Hook == hooks.Leave {
					leave = append(leave, entry.Node)
				}
				if at := slices.Index(leave, entry.Node); at >= 0 && (entry.Hook == hooks.AfterLeave || entry.Hook == hooks.LeaveCancelled) {
					leave = slices.Delete(leave, at, at+1)
				}
				if entry.Hook == hooks.AfterLeave {
					left = append(left, entry.Node)
				}
			}
			told = len(log)
			there := leavers(e)
			slices.Sort(leave)
			slices.Sort(there)
			if !slices.Equal(leave, there) {
				t.Fatalf("after %s, %v leave, but those that are told are %v", a.name, there, leave)
			}
			for _, id := range left {
				if _, is := e.Look(id); is {
					t.Fatalf("after %s, %d has left and is there", a.name, id)
				}
			}
		})
		if told != len(e.Hooks()) {
			t.Fatal("an error has reported something")
		}
	}
	for hook := hooks.BeforeEnter; hook <= hooks.LeaveCancelled; hook++ {
		if counts[hook] < 50 {
			t.Errorf("%s came %d times only", hooks.Name(hook), counts[hook])
		}
	}
}

// P27.5: in a Slot that is always out-in, none begins to enter while another one
// leaves; in one that is always in-out, none begins to leave while another one enters.
func TestSlotsInTurn(t *testing.T) {
	for seed := range int64(300) {
		r := rand.New(rand.NewSource(seed))
		mode := choose(r, "!out-in", "!in-out")
		e, state := engine.New(engine.Config{Nodes: 99, Depth: 5, Ghosts: 50, Timers: 50}), map[int]int{}
		some := func() view.Node {
			return parse(t, "(p !slot !enter=2 !leave=3 "+mode+choose(r, "", " !appear")+choose(r, "", " (p #a)", " (p #b)", " (p #c)")+")")
		}
		told := 0
		for range 40 {
			a := anyAct(r, e.Mounted(), e.Dom().Next(), some)
			a.do(e)
			for _, entry := range e.Hooks()[told:] {
				for id, hook := range state {
					if id != entry.Node && (entry.Hook == hooks.BeforeEnter && hook == hooks.Leave && mode == "!out-in" || entry.Hook == hooks.BeforeLeave && hook == hooks.Enter && mode == "!in-out") {
						t.Fatalf("in %s, after %s, %v was told while %d was in %s", mode, a.name, entry, id, hooks.Name(hook))
					}
				}
				state[entry.Node] = entry.Hook
			}
			told = len(e.Hooks())
		}
	}
}

// P27.6: there are never more nodes, ghosts and kids that are not at rest than there
// may be.
func TestWithin(t *testing.T) {
	full := map[string]int{}
	for seed := range int64(300) {
		r := rand.New(rand.NewSource(seed))
		c := engine.Config{Nodes: 2 + r.Intn(12), Depth: 5, Ghosts: r.Intn(4), Timers: r.Intn(5), Width: 9}
		e, base := engine.New(c), choose(r, "group", "slot", "any")
		some := func() view.Node {
			if base == "any" {
				return someView(t, r)
			}
			return similar(t, r, base)
		}
		now := 0
		for range 40 {
			a := anyAct(r, e.Mounted(), e.Dom().Next(), some)
			a.do(e)
			d, ghosts, busy := e.Dom(), 0, 0
			for _, id := range d.Order() {
				look, _ := e.Look(id)
				if look.Ghost() {
					ghosts++
				}
				if look != (dress.Look{}) {
					busy++
				}
			}
			if d.Count() > c.Nodes || d.Count() != len(d.Order())-1 || ghosts > c.Ghosts || busy > c.Timers || e.Now() < now {
				t.Fatalf("after %s there are %d nodes, %d ghosts and %d busy kids with %v", a.name, d.Count(), ghosts, busy, c)
			}
			now = e.Now()
			for what, is := range map[string]bool{"nodes": d.Count() == c.Nodes, "ghosts": ghosts == c.Ghosts && ghosts > 0, "busy": busy == c.Timers && busy > 0} {
				if is {
					full[what]++
				}
			}
		}
	}
	if full["nodes"] < 100 || full["ghosts"] < 100 || full["busy"] < 100 {
		t.Errorf("the limits were reached %v times", full)
	}
}

// P27.7: Ops lead from any previous nodes to the present ones, whatever happened in
// between without being done.
func TestOpsOverCalls(t *testing.T) {
	for seed := range int64(200) {
		before := arena.New(65536)
		lives(t, seed, 40, func(_ *rand.Rand, e *engine.Engine, a act) {
			replayed(t, []string{a.name}, before, e)
		})
	}
}
