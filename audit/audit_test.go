package audit_test

import (
	"slices"
	"testing"

	"scrim/audit"
	"scrim/dress"
	"scrim/engine"
	"scrim/hooks"
	"scrim/props"
	"scrim/sched"
	"scrim/still"
	"scrim/view"
	"scrim/wheel"
)

// P29.1: the chapter's example, and the kinds of findings.
func TestNew(t *testing.T) {
	for _, e := range []*engine.Engine{engine.New(engine.Config{}), {}, engine.New(engine.Config{Nodes: 99, Depth: 9, Ghosts: 9, Timers: 9, Width: 9})} {
		p := audit.Of(e)
		if l := p.Check(); len(l) > 0 || p.Tree.Show(true) != "(0:root)" || p.Mounted || p.Now != 0 || len(p.Kids) > 0 || len(p.Pending) > 0 || len(p.Hooks) > 0 || !view.Same(p.View, view.Node{}) {
			t.Errorf("of a new engine there is %+v with %v", p, l)
		}
	}
	if audit.Shown != 1 || audit.Dressed != 2 || audit.Ghostly != 3 || audit.Waiting != 4 || audit.Idle != 5 || audit.Told != 6 {
		t.Error("the kinds of findings have other numbers")
	}
}

// list is a Group with kids that are written so.
func list(kids string) string {
	return "(ul !group !enter=3 !leave=2 !move=4 !moves " + kids + ")"
}

// picture is that of a Group at 5 in which c and a have changed places, b leaves and d
// enters, after so many frames.
func picture(t *testing.T, frames int) audit.Picture {
	t.Helper()
	e := engine.New(engine.Config{Nodes: 20, Depth: 5, Ghosts: 3, Timers: 9, Width: 9})
	e.Tick(5)
	e.Mount(parse(t, list("(li #a h=1) (li #b h=1 .on) (li #c h=2)")))
	e.Render(parse(t, list("(li #c h=2) (li #d .on 'x') (li #a h=1)")))
	for range frames {
		e.Frame()
	}
	return audit.Of(e)
}

// P29.1: Of tells everything that the engine shows, waits for and has reported.
func TestOf(t *testing.T) {
	p := picture(t, 1)
	if got, want := p.Tree.Show(true), "(0:root (1:ul (4:li .t-move h=2 t-dx=0 t-dy=2) (5:li .on .t-enter-from .t-enter-active 6:'x') (2:li .t-move h=1 t-dx=0 t-dy=-3) (3:li .on .t-leave-from .t-leave-active @t-ghost= h=1)))"; got != want {
		t.Errorf("the tree is %s, wanted %s", got, want)
	}
	if !view.Same(p.View, parse(t, list("(li #c h=2) (li #d .on 'x') (li #a h=1)"))) || !p.Mounted || p.Now != 5 {
		t.Errorf("the view is %v, %v at %d", p.View, p.Mounted, p.Now)
	}
	kids := []audit.Kid{{ID: 1}, {ID: 4, Look: dress.Look{Move: 1, DY: 2}}, {ID: 5, Look: dress.Look{Kind: 2}}, {ID: 6}, {ID: 2, Look: dress.Look{Move: 1, DY: -3}}, {ID: 3, Look: dress.Look{Kind: 5}}}
	if !slices.Equal(p.Kids, kids) {
		t.Errorf("the kids are %v, wanted %v", p.Kids, kids)
	}
	if want := []sched.Pending{frame(1, 1, 3, 1), frame(2, 1, 5, 1), frame(3, 2, 4, 1), frame(4, 2, 2, 1)}; !slices.Equal(p.Pending, want) {
		t.Errorf("%v wait, wanted %v", p.Pending, want)
	}
	if got, want := p.Hooks.Text(), "1 b 3 before-leave\n1 b 3 leave\n1 d 5 before-enter\n1 d 5 enter\n"; got != want {
		t.Errorf("the hooks are %s, wanted %s", got, want)
	}
	p = picture(t, 2)
	if want := []sched.Pending{timer(1, 1, 3, 7), timer(2, 1, 5, 8), timer(3, 2, 4, 9), timer(4, 2, 2, 9)}; !slices.Equal(p.Pending, want) {
		t.Errorf("%v wait, wanted %v", p.Pending, want)
	}
}

func frame(token, kind, node, left int) sched.Pending {
	return sched.Pending{Ref: sched.Ref{Frame: true, Token: token}, Job: wheel.Job{Kind: kind, Node: node}, Left: left}
}

func timer(token, kind, node, deadline int) sched.Pending {
	return sched.Pending{Ref: sched.Ref{Token: token}, Job: wheel.Job{Kind: kind, Node: node}, Deadline: deadline}
}

// node is the first node of a picture with an ID, where it can be changed.
func node(p *audit.Picture, id int) *still.Tree {
	for _, n := range places(&p.Tree) {
		if n.ID == id {
			return n
		}
	}
	return nil
}

// finds fails unless there are exactly these findings: their kinds and IDs in turn.
func finds(t *testing.T, what string, p audit.Picture, want ...int) {
	t.Helper()
	var got []int
	for _, f := range p.Check() {
		got = append(got, f.Kind, f.ID)
	}
	if !slices.Equal(got, want) {
		t.Errorf("%s: %v, wanted %v", what, got, want)
	}
}

// spoilt is a change of a picture, after so many frames, and what is found then.
type spoilt struct {
	what   string
	frames int
	change func(p *audit.Picture)
	want   []int
}

func checkAll(t *testing.T, l []spoilt) {
	t.Helper()
	for frames := range 3 {
		finds(t, "nothing", picture(t, frames))
	}
	for _, s := range l {
		p := picture(t, s.frames)
		s.change(&p)
		finds(t, s.what, p, s.want...)
	}
}

// P29.1: Shown.
func TestShown(t *testing.T) {
	other := still.Tree{ID: 9, Kind: 2, Tag: "p"}
	shown := []int{audit.Shown, 0}
	checkAll(t, []spoilt{
		{"another view", 0, func(p *audit.Picture) { p.View.Tag = "p" }, shown},
		{"a view that is Normal only then", 0, func(p *audit.Picture) {
			p.View.Kids[0].Kids = []view.Node{{Kind: view.Text}}
			p.View.Kids[1].Classes = []string{"on", "on"}
		}, nil},
		{"not mounted", 0, func(p *audit.Picture) { p.Mounted = false }, shown},
		{"another tag", 0, func(p *audit.Picture) { node(p, 5).Tag = "p" }, shown},
		{"a class less", 0, func(p *audit.Picture) { node(p, 5).Classes = node(p, 5).Classes[1:] }, shown},
		{"another Text", 0, func(p *audit.Picture) { node(p, 6).Text = "y" }, shown},
		{"another root", 0, func(p *audit.Picture) { p.Tree.Tag, p.Tree.Kind, p.Tree.ID, p.Tree.Text = "ul", 1, 99, "x" }, nil},
		{"what a ghost shows", 0, func(p *audit.Picture) { node(p, 3).Tag, node(p, 3).Kids = "p", []still.Tree{other} }, nil},
		{"one kid more", 0, func(p *audit.Picture) { p.Tree.Kids = append(p.Tree.Kids, other) }, shown},
		{"the same once more", 0, func(p *audit.Picture) { p.Tree.Kids = append(p.Tree.Kids, p.Tree.Kids[0]) }, shown},
		{"a ghost more", 0, func(p *audit.Picture) {
			other := other
			other.Attrs = other.Attrs.Set("t-ghost", "")
			p.Tree.Kids = append(p.Tree.Kids, other)
		}, nil},
		{"other reserved names", 0, func(p *audit.Picture) {
			n := node(p, 5)
			n.Attrs, n.Styles = n.Attrs.Set("t-x", "1"), n.Styles.Set("t-y", 1)
		}, nil},
		{"the root is a ghost", 0, func(p *audit.Picture) { p.Tree.Attrs = p.Tree.Attrs.Set("t-ghost", "") }, shown},
		{"classes of the root", 0, func(p *audit.Picture) { p.Tree.Classes = []string{"t-hold", "on"} }, nil},
	})
	p := audit.Picture{Tree: still.Tree{Kind: 2, Tag: "root", Kids: []still.Tree{other}}, View: view.Node{Kind: view.Element, Tag: "p"}}
	finds(t, "a kid, but not mounted", p, shown...)
	p.Mounted = true
	finds(t, "mounted", p)
	p.Tree.Kids[0].Attrs = p.Tree.Kids[0].Attrs.Set("t-ghost", "")
	finds(t, "only a ghost, but mounted", p, shown...)
	p.Mounted = false
	finds(t, "only a ghost", p)
	finds(t, "a zero Picture", audit.Picture{})
	finds(t, "mounted, but nothing is there", audit.Picture{Mounted: true}, shown...)
	finds(t, "a zero node", audit.Picture{Mounted: true, Tree: still.Tree{Kids: []still.Tree{{Kind: 2}}}})
}

// P29.1: Dressed.
func TestDressed(t *testing.T) {
	checkAll(t, []spoilt{
		{"no node", 0, func(p *audit.Picture) { p.Kids = append(p.Kids, audit.Kid{ID: 7}) }, []int{2, 7}},
		{"no node for one that waits for nothing", 0, func(p *audit.Picture) { p.Kids = append(p.Kids, audit.Kid{ID: 7, Look: dress.Look{Kind: 4}}) }, []int{2, 7}},
		{"a class more", 0, func(p *audit.Picture) { node(p, 6).Classes = []string{"t-wait"} }, []int{2, 6}},
		{"a class twice", 0, func(p *audit.Picture) { node(p, 4).Classes = []string{"t-move", "t-move"} }, []int{2, 4}},
		{"a reserved class of no look", 0, func(p *audit.Picture) { node(p, 1).Classes = []string{"t-"} }, []int{2, 1}},
		{"a class less", 2, func(p *audit.Picture) { node(p, 2).Classes = nil }, []int{2, 2}},
		{"another order", 0, func(p *audit.Picture) { node(p, 5).Classes = []string{"on", "t-enter-active", "t-enter-from"} }, []int{2, 5}},
		{"own classes elsewhere", 0, func(p *audit.Picture) { node(p, 5).Classes = []string{"t-enter-from", "on", "t-enter-active"} }, nil},
		{"another DX", 0, func(p *audit.Picture) { node(p, 4).Styles = node(p, 4).Styles.Set("t-dx", 1) }, []int{2, 4}},
		{"another DY", 0, func(p *audit.Picture) { node(p, 4).Styles = node(p, 4).Styles.Set("t-dy", 0) }, []int{2, 4}},
		{"no DX, which is 0", 0, func(p *audit.Picture) { node(p, 4).Styles = node(p, 4).Styles.Drop("t-dx") }, []int{2, 4}},
		{"no DY", 0, func(p *audit.Picture) { node(p, 4).Styles = node(p, 4).Styles.Drop("t-dy") }, []int{2, 4}},
		{"DY twice", 0, func(p *audit.Picture) {
			node(p, 4).Styles = append(props.Map[int]{{Name: "t-dy", Value: 9}}, node(p, 4).Styles...)
		}, nil},
		{"DX of one that comes back", 2, func(p *audit.Picture) { node(p, 4).Styles = node(p, 4).Styles.Set("t-dx", 0) }, []int{2, 4}},
		{"DY of one that is unmoved", 0, func(p *audit.Picture) { node(p, 3).Styles = node(p, 3).Styles.Set("t-dy", 0) }, []int{2, 3}},
		{"another look", 0, func(p *audit.Picture) { p.Kids[2].Look.Kind = dress.LeaveFrom }, []int{2, 5, 3, 5}},
		{"another offset", 0, func(p *audit.Picture) { p.Kids[1].Look.DX = 1 << 40 }, []int{2, 4}},
		{"a look of no kind", 1, func(p *audit.Picture) { p.Kids[0].Look.Kind = 7 }, nil},
		{"a move of no kind", 1, func(p *audit.Picture) { p.Kids[0].Look.Move = 3 }, []int{2, 1}},
		{"the first node with the ID", 0, func(p *audit.Picture) {
			node(p, 3).Kids = []still.Tree{{ID: 5, Kind: 2}, {ID: 6, Kind: 2, Classes: []string{"t-hold"}}}
		}, nil},
		{"the root", 0, func(p *audit.Picture) {
			p.Kids = append(p.Kids, audit.Kid{})
			p.Tree.Classes = []string{"t-hold"}
		}, []int{2, 0}},
		{"the same kid twice", 0, func(p *audit.Picture) {
			p.Kids = append(p.Kids, p.Kids[4])
			node(p, 2).Classes = nil
		}, []int{2, 2, 2, 2}},
	})
}

// P29.1: Ghostly.
func TestGhostly(t *testing.T) {
	checkAll(t, []spoilt{
		{"a mark more", 0, func(p *audit.Picture) { node(p, 6).Attrs = node(p, 6).Attrs.Set("t-ghost", "") }, []int{1, 0, 3, 6}},
		{"with any value", 0, func(p *audit.Picture) { node(p, 3).Attrs = node(p, 3).Attrs.Set("t-ghost", "1") }, nil},
		{"a mark less", 2, func(p *audit.Picture) { node(p, 3).Attrs = nil }, []int{1, 0, 3, 3}},
		{"a look that is held", 0, func(p *audit.Picture) { p.Kids[0].Look.Kind = dress.Hold }, []int{2, 1, 3, 1}},
		{"a look that waits", 0, func(p *audit.Picture) { p.Kids[0].Look.Kind = dress.Wait }, []int{2, 1}},
		{"no node", 0, func(p *audit.Picture) { node(p, 3).ID = 7 }, []int{2, 3}},
	})
}

// P29.1: Waiting.
func TestWaiting(t *testing.T) {
	checkAll(t, []spoilt{
		{"no job of frames", 0, func(p *audit.Picture) { p.Pending = p.Pending[1:] }, []int{4, 3}},
		{"no job of a move", 1, func(p *audit.Picture) { p.Pending = p.Pending[:3] }, []int{4, 2}},
		{"no timer", 2, func(p *audit.Picture) { p.Pending = slices.Delete(p.Pending, 1, 2) }, []int{4, 5}},
		{"no timer of a move", 2, func(p *audit.Picture) { p.Pending = slices.Delete(p.Pending, 2, 3) }, []int{4, 4}},
		{"a job twice", 0, func(p *audit.Picture) { p.Pending = append(p.Pending, frame(9, 1, 5, 2)) }, []int{4, 5}},
		{"a job of frames and a timer", 2, func(p *audit.Picture) { p.Pending = append(p.Pending, frame(9, 2, 4, 2)) }, []int{4, 4}},
		{"a timer instead of frames", 0, func(p *audit.Picture) { p.Pending[1] = timer(9, 1, 5, 5) }, []int{4, 5}},
		{"frames instead of a timer", 2, func(p *audit.Picture) { p.Pending[2] = frame(9, 2, 4, 2) }, []int{4, 4}},
		{"of the other Kind", 0, func(p *audit.Picture) { p.Pending[3] = frame(9, 1, 2, 2) }, []int{4, 2}},
		{"of both Kinds", 0, func(p *audit.Picture) { p.Pending = append(p.Pending, frame(9, 2, 5, 2)) }, []int{4, 5}},
		{"of no Kind", 0, func(p *audit.Picture) { p.Pending = append(p.Pending, frame(9, 3, 5, 2)) }, []int{4, 5, 5, 5}},
		{"for one that is still", 0, func(p *audit.Picture) { p.Pending = append(p.Pending, timer(9, 1, 6, 5)) }, []int{4, 6}},
		{"for another one", 0, func(p *audit.Picture) { p.Pending[0].Job.Node = 6 }, []int{4, 6, 4, 3}},
		{"without a node", 0, func(p *audit.Picture) { p.Kids = append(p.Kids, audit.Kid{ID: 7, Look: dress.Look{Kind: 2}}) }, []int{2, 7, 4, 7}},
		{"with another token", 0, func(p *audit.Picture) { p.Pending[0].Ref.Token = -9 }, nil},
	})
	held := audit.Picture{Tree: still.Tree{Attrs: props.Map[string]{{Name: "t-ghost"}}, Classes: []string{"t-hold"}}, Kids: []audit.Kid{{Look: dress.Look{Kind: dress.Hold}}}}
	finds(t, "held", held)
	held.Pending = []sched.Pending{timer(1, 1, 0, 0)}
	finds(t, "a job for one that is held", held, 4, 0)
}

// P29.1: Idle.
func TestIdle(t *testing.T) {
	checkAll(t, []spoilt{
		{"nobody's job", 0, func(p *audit.Picture) { p.Pending = append(p.Pending, frame(9, 1, 7, 2), timer(9, 2, 0, 9)) }, []int{5, 7, 5, 0}},
		{"a job of a node that has no look", 0, func(p *audit.Picture) { p.Kids = slices.Delete(p.Kids, 5, 6) }, []int{5, 3}},
		{"of the Kind 0", 0, func(p *audit.Picture) { p.Pending[2].Job.Kind = 0 }, []int{4, 4, 5, 4}},
		{"no frames left", 1, func(p *audit.Picture) { p.Pending[0].Left = 0 }, []int{5, 3}},
		{"three frames left", 1, func(p *audit.Picture) { p.Pending[0].Left = 3 }, []int{5, 3}},
		{"two frames left", 1, func(p *audit.Picture) { p.Pending[0].Left = 2 }, nil},
		{"frames with a deadline", 1, func(p *audit.Picture) { p.Pending[0].Deadline = -1 }, nil},
		{"timers with frames", 2, func(p *audit.Picture) { p.Pending[0].Left = 3 }, nil},
		{"due now", 2, func(p *audit.Picture) { p.Now = 7 }, nil},
		{"past", 2, func(p *audit.Picture) { p.Now = 8 }, []int{5, 3}},
		{"all past", 2, func(p *audit.Picture) { p.Now = 10 }, []int{5, 3, 5, 5, 5, 4, 5, 2}},
		{"frames have no deadline", 1, func(p *audit.Picture) { p.Now = 1 << 40 }, nil},
		{"wrong in each way", 1, func(p *audit.Picture) { p.Pending = append(p.Pending, frame(9, 3, 7, 9)) }, []int{5, 7}},
	})
}

// P29.1: Told, and the order of all findings.
func TestTold(t *testing.T) {
	checkAll(t, []spoilt{
		{"a hook less", 0, func(p *audit.Picture) { p.Hooks = p.Hooks[1:] }, []int{6, 0}},
		{"no hooks", 0, func(p *audit.Picture) { p.Hooks = nil }, nil},
		{"no hook", 0, func(p *audit.Picture) { p.Hooks = append(p.Hooks, hooks.Entry{Hook: 9}) }, []int{6, 0}},
		{"everything", 2, func(p *audit.Picture) {
			p.Mounted, p.Now, p.Hooks = false, 8, p.Hooks[1:]
			p.Kids[1].Look = dress.Look{Kind: dress.LeaveFrom}
			p.Kids = append(p.Kids[:2], append(p.Kids[3:], audit.Kid{ID: 7, Look: dress.Look{Kind: dress.EnterTo}})...)
		}, []int{1, 0, 2, 4, 3, 4, 4, 4, 2, 7, 4, 7, 5, 3, 5, 5, 6, 0}},
	})
}
