package engine_test

import (
	"fmt"
	"math/rand"
	"slices"
	"strings"

	"scrim/api"
	"scrim/engine"
	"scrim/layout"
	"scrim/props"
	"scrim/rect"
	"scrim/sched"
	"scrim/still"
	"scrim/view"
	"scrim/wheel"
)

// The kinds and moves of a look, spelt out.
const (
	rests, waits, enterFrom, enterTo, held, leaveFrom, leaveTo = 0, 1, 2, 3, 4, 5, 6
	unmoved, away, back                                        = 0, 1, 2
	ofTransition, ofMove                                       = 1, 2
)

// marks are the classes of each kind of a look.
var marks = [][]string{rests: nil, waits: {"t-wait"}, enterFrom: {"t-enter-from", "t-enter-active"}, enterTo: {"t-enter-active", "t-enter-to"},
	held: {"t-hold"}, leaveFrom: {"t-leave-from", "t-leave-active"}, leaveTo: {"t-leave-active", "t-leave-to"}}

// actor is a node that is shown, with how it comes, goes and moves.
type actor struct {
	id                               int
	view                             view.Node
	up                               *actor
	kids                             []*actor
	kind, move, dx, dy, dur, moveDur int
}

// model is an engine that is spelt out by what the chapters say, without the program's
// own items, states, plans and clock.
type model struct {
	c                    engine.Config
	top                  *actor
	next, frames, timers int
	now, longest         int
	view                 view.Node
	jobs                 []sched.Pending
	hooks                string
}

// modelOf is a model whose Config is within its ranges.
func modelOf(c engine.Config) *model { return &model{c: c} }

func (a *actor) ghost() bool    { return a.kind >= held }
func (a *actor) leaving() bool  { return a.kind == leaveFrom || a.kind == leaveTo }
func (a *actor) entering() bool { return a.kind == enterFrom || a.kind == enterTo }

// plays reports whether it is the kid of a Group or Slot.
func (a *actor) plays() bool {
	return a.up != nil && (a.up.view.Kind == view.Group || a.up.view.Kind == view.Slot)
}

// all are it and all below it, in order.
func (a *actor) all() []*actor {
	if a == nil {
		return nil
	}
	l := []*actor{a}
	for _, kid := range a.kids {
		l = append(l, kid.all()...)
	}
	return l
}

func (a *actor) copy() *actor {
	if a == nil {
		return nil
	}
	b := *a
	b.kids = nil
	for _, kid := range a.kids {
		k := kid.copy()
		k.up = &b
		b.kids = append(b.kids, k)
	}
	return &b
}

// tree is what its node, and what is below it, must be.
func (a *actor) tree() still.Tree {
	if a.view.Kind == view.Text {
		return still.Tree{ID: a.id, Kind: 1, Text: a.view.Text}
	}
	t := still.Tree{ID: a.id, Kind: 2, Tag: a.view.Tag}
	t.Classes = slices.Concat(a.view.Classes, marks[a.kind])
	if a.move != unmoved {
		t.Classes = append(t.Classes, "t-move")
	}
	attrs, styles := slices.Clone(a.view.Attrs), slices.Clone(a.view.Styles)
	if a.ghost() {
		attrs = append(attrs, props.Pair[string]{Name: "t-ghost"})
	}
	if a.move == away {
		styles = append(styles, props.Pair[int]{Name: "t-dx", Value: a.dx}, props.Pair[int]{Name: "t-dy", Value: a.dy})
	}
	t.Attrs, t.Styles = props.Of(attrs...), props.Of(styles...)
	for _, kid := range a.kids {
		t.Kids = append(t.Kids, kid.tree())
	}
	return t
}

func (m *model) copy() *model {
	c := *m
	c.top, c.jobs = m.top.copy(), slices.Clone(m.jobs)
	return &c
}

func (m *model) tree() still.Tree {
	root := still.Tree{Kind: 2, Tag: "root"}
	if m.top != nil {
		root.Kids = []still.Tree{m.top.tree()}
	}
	return root
}

func (m *model) rects() rect.Snap { return layout.Of(m.tree(), m.c.Width) }

func (m *model) find(id int) *actor {
	for _, a := range m.top.all() {
		if a.id == id {
			return a
		}
	}
	return nil
}

// pending is what waits, those for frames first.
func (m *model) pending() []sched.Pending {
	l := slices.Clone(m.jobs)
	slices.SortStableFunc(l, func(a, b sched.Pending) int {
		switch {
		case a.Ref.Frame != b.Ref.Frame && a.Ref.Frame:
			return -1
		case a.Ref.Frame != b.Ref.Frame:
			return 1
		case a.Deadline != b.Deadline:
			return a.Deadline - b.Deadline
		}
		return a.Ref.Token - b.Ref.Token
	})
	return l
}

func (m *model) tell(a *actor, hooks ...string) {
	for _, hook := range hooks {
		m.hooks += fmt.Sprintf("%d %s %d %s\n", a.up.id, a.view.Key, a.id, hook)
	}
}

// stop removes the job of a kind.
func (m *model) stop(a *actor, kind int) {
	m.jobs = slices.DeleteFunc(m.jobs, func(p sched.Pending) bool { return p.Job == wheel.Job{Kind: kind, Node: a.id} })
}

func (m *model) second(a *actor, kind int) {
	m.frames++
	m.jobs = append(m.jobs, sched.Pending{Ref: sched.Ref{Frame: true, Token: m.frames}, Job: wheel.Job{Kind: kind, Node: a.id}, Left: 2})
}

func (m *model) after(a *actor, kind, d int) {
	m.timers++
	m.jobs = append(m.jobs, sched.Pending{Ref: sched.Ref{Token: m.timers}, Job: wheel.Job{Kind: kind, Node: a.id}, Deadline: min(m.now+d, 1<<40)})
}

// endMove ends a move.
func (m *model) endMove(a *actor) {
	a.move, a.dx, a.dy, a.moveDur = unmoved, 0, 0, 0
	m.stop(a, ofMove)
}

// begin begins a transition; with once it is in progress at once.
func (m *model) begin(a *actor, from, to, dur int, once bool) {
	a.dur = dur
	m.endMove(a)
	if once {
		a.kind = to
		m.after(a, ofTransition, dur)
	} else {
		a.kind = from
		m.second(a, ofTransition)
	}
}

func (m *model) enter(a *actor, once bool) {
	if a.kind == waits {
		m.tell(a, "before-enter", "enter")
		m.begin(a, enterFrom, enterTo, a.up.view.Opts.Enter, once)
	}
}

// stopEntering ends an enter.
func (m *model) stopEntering(a *actor) {
	if a.entering() {
		m.tell(a, "enter-cancelled")
		m.stop(a, ofTransition)
	}
}

func (m *model) leave(a *actor, once bool) {
	if a.entering() || a.kind == rests || a.kind == held {
		m.stopEntering(a)
		m.tell(a, "before-leave", "leave")
		m.begin(a, leaveFrom, leaveTo, a.up.view.Opts.Leave, once)
	}
}

func (m *model) hold(a *actor) {
	m.stopEntering(a)
	a.kind, a.dur = held, 0
	m.endMove(a)
}

func (m *model) comeBack(a *actor) {
	if a.kind == held {
		a.kind = rests
		return
	}
	m.tell(a, "leave-cancelled")
	m.stop(a, ofTransition)
	a.kind, a.dur = waits, 0
}

// vanish removes a kid that has left.
func (m *model) vanish(a *actor) {
	for _, kid := range a.kids {
		m.settle(kid)
	}
	m.tell(a, "after-leave")
	m.stop(a, ofTransition)
	m.remove(a)
}

func (m *model) finish(a *actor) {
	switch a.kind {
	case enterTo:
		m.tell(a, "after-enter")
		m.stop(a, ofTransition)
		a.kind, a.dur = rests, 0
	case leaveTo:
		m.vanish(a)
	}
}

func (m *model) moveFinish(a *actor) {
	if a.move == back {
		m.endMove(a)
	}
}

func (m *model) cancel(a *actor) {
	m.endMove(a)
	if a.leaving() {
		m.vanish(a)
	} else if a.entering() {
		m.stopEntering(a)
		a.kind, a.dur = rests, 0
	}
}

// settle ends everything without removing it.
func (m *model) settle(a *actor) {
	for _, kid := range a.kids {
		m.settle(kid)
	}
	if a.plays() && a.entering() {
		m.tell(a, "enter-cancelled")
	}
	if a.plays() && a.leaving() {
		m.tell(a, "after-leave")
	}
	m.stop(a, ofTransition)
	m.stop(a, ofMove)
}

func (m *model) remove(a *actor) {
	if a.up == nil {
		m.top = nil
		return
	}
	at := slices.Index(a.up.kids, a)
	a.up.kids = slices.Delete(slices.Clone(a.up.kids), at, at+1)
}

func (m *model) destroy(a *actor) {
	m.settle(a)
	m.remove(a)
}

// proceed lets a Slot continue by itself.
func (m *model) proceed(a *actor) {
	if a.view.Kind != view.Slot {
		return
	}
	var current *actor
	ghosts := 0
	for _, kid := range a.kids {
		if kid.ghost() {
			ghosts++
		} else if current == nil {
			current = kid
		}
	}
	if current != nil && current.entering() {
		return
	}
	for _, kid := range a.kids {
		if kid.kind == held {
			m.leave(kid, true)
		}
	}
	if current != nil && ghosts == 0 {
		m.enter(current, true)
	}
}

// make creates a view, node by node.
func (m *model) make(n view.Node, up *actor) *actor {
	m.next++
	a := &actor{id: m.next, view: n, up: up}
	a.view.Kids = nil
	for _, kid := range n.Kids {
		a.kids = append(a.kids, m.make(kid, a))
	}
	return a
}

// create creates a view, of which some may appear.
func (m *model) create(n view.Node, up *actor) *actor {
	a := m.make(n, up)
	m.appear(a)
	return a
}

func (m *model) appear(a *actor) {
	for _, kid := range a.kids {
		m.appear(kid)
		if a.view.Opts.Appear {
			kid.kind = waits
			m.enter(kid, false)
		}
	}
}

// patch shows another node of the same Kind.
func (m *model) patch(a *actor, n view.Node) {
	a.view = n
	a.view.Kids = nil
	was := slices.Clone(a.kids)
	var live []*actor
	switch n.Kind {
	case view.Element:
		a.kids = m.patchElement(a, was, n.Kids)
	case view.Group:
		live = m.patchGroup(a, was, n.Kids)
		a.kids = merged(a.kids, live)
	case view.Slot:
		m.patchSlot(a, was, n.Kids)
	}
}

// nth is which one of those without a key comes at a position.
func nth(at int, key func(int) string) int {
	n := 0
	for i := range at {
		if key(i) == "" {
			n++
		}
	}
	return n
}

func (m *model) patchElement(a *actor, was []*actor, kids []view.Node) []*actor {
	same := func(i, j int) bool {
		if was[i].view.Kind != kids[j].Kind || was[i].view.Key != kids[j].Key {
			return false
		}
		return kids[j].Key != "" || nth(i, func(i int) string { return was[i].view.Key }) == nth(j, func(j int) string { return kids[j].Key })
	}
	partner := map[int]*actor{}
	for i, old := range was {
		found := false
		for j := range kids {
			if same(i, j) {
				partner[j], found = old, true
			}
		}
		if !found {
			m.destroy(old)
		}
	}
	var l []*actor
	for j, n := range kids {
		if old := partner[j]; old != nil {
			m.patch(old, n)
			l = append(l, old)
		} else {
			l = append(l, m.create(n, a))
		}
	}
	return l
}

func (m *model) patchGroup(a *actor, was []*actor, kids []view.Node) []*actor {
	for _, old := range was {
		required := slices.ContainsFunc(kids, func(n view.Node) bool { return n.Key == old.view.Key })
		if !old.ghost() && !required {
			m.leave(old, false)
		}
	}
	var live []*actor
	for _, n := range kids {
		at := slices.IndexFunc(was, func(old *actor) bool { return old.view.Key == n.Key })
		if at < 0 {
			kid := m.create(n, a)
			kid.kind = waits
			m.enter(kid, false)
			live = append(live, kid)
			continue
		}
		kid := was[at]
		live = append(live, kid)
		if kid.ghost() {
			m.comeBack(kid)
			m.patch(kid, n)
			m.enter(kid, false)
		} else {
			m.patch(kid, n)
		}
	}
	return live
}

func (m *model) patchSlot(a *actor, was []*actor, kids []view.Node) {
	key, mode := "", a.view.Opts.Mode
	if len(kids) == 1 {
		key = kids[0].Key
	}
	var current, taken *actor
	for _, kid := range slices.Backward(was) {
		if !kid.ghost() {
			current = kid
		}
	}
	begins := false
	var live []*actor
	switch {
	case key != "" && current != nil && current.view.Key == key:
		taken = current
		m.patch(taken, kids[0])
		live = []*actor{taken}
	default:
		others := 0
		for _, kid := range slices.Backward(was) {
			if kid.ghost() && kid.view.Key == key {
				taken = kid
			}
		}
		for _, kid := range was {
			if kid.ghost() && kid != taken {
				others++
			}
		}
		if current != nil && current.kind == waits {
			m.destroy(current)
		} else if current != nil && mode == view.InOut && key != "" {
			m.hold(current)
		} else if current != nil {
			m.leave(current, false)
			others++
		}
		if key == "" {
			break
		}
		begins = mode != view.OutIn || others == 0
		if taken != nil {
			begins = begins && taken.kind != held
			m.comeBack(taken)
			m.patch(taken, kids[0])
		} else {
			taken = m.create(kids[0], a)
			taken.kind = waits
		}
		if begins {
			m.enter(taken, false)
		}
		live = []*actor{taken}
	}
	a.kids = merged(a.kids, live)
	if taken == nil || !taken.entering() {
		for _, kid := range was {
			if kid.kind == held {
				m.leave(kid, true)
			}
		}
	}
}

// merged are those that are required, with the ghosts that were there.
func merged(was, live []*actor) []*actor {
	behind := map[*actor][]*actor{}
	var last *actor
	for _, kid := range was {
		if slices.Contains(live, kid) {
			last = kid
		} else {
			behind[last] = append(behind[last], kid)
		}
	}
	l := slices.Clone(behind[nil])
	for _, kid := range live {
		l = append(append(l, kid), behind[kid]...)
	}
	return l
}

// accept shows a view in the way that is passed, or is as before.
func (m *model) accept(n view.Node, show func(view.Node)) api.Errno {
	if f := n.Check(m.c.Depth, m.c.Nodes); f != api.OK {
		return f
	}
	before := m.copy()
	m.view, m.longest = n.Normal(), max(m.longest, n.Longest())
	show(m.view)
	f := m.bounds()
	if f != api.OK {
		*m = *before
	}
	return f
}

func (m *model) bounds() api.Errno {
	ghosts, busy := 0, 0
	for _, a := range m.top.all() {
		if a.ghost() {
			ghosts++
		}
		if a.kind != rests || a.move != unmoved {
			busy++
		}
	}
	switch {
	case len(m.top.all()) > m.c.Nodes:
		return api.ErrNodes
	case ghosts > m.c.Ghosts:
		return api.ErrGhosts
	case busy > m.c.Timers:
		return api.ErrTimers
	}
	return api.OK
}

func (m *model) Mount(n view.Node) api.Errno {
	if m.top != nil {
		return api.ErrThere
	}
	return m.accept(n, func(n view.Node) { m.top = m.create(n, nil) })
}

func (m *model) Render(n view.Node) api.Errno {
	if m.top == nil {
		return api.ErrMount
	}
	return m.accept(n, func(n view.Node) {
		before, solid := m.rects(), map[int]bool{}
		for _, a := range m.top.all() {
			solid[a.id] = !a.ghost()
		}
		if m.top.view.Kind == n.Kind {
			m.patch(m.top, n)
		} else {
			m.destroy(m.top)
			m.top = m.create(n, nil)
		}
		m.shift(m.top, before, m.rects(), solid)
	})
}

// shift moves the kids of Groups back to where they were.
func (m *model) shift(a *actor, before, after rect.Snap, solid map[int]bool) {
	if a.ghost() {
		return
	}
	for _, kid := range a.kids {
		was, _ := before.Get(kid.id)
		is, _ := after.Get(kid.id)
		dx, dy := was.X-is.X, was.Y-is.Y
		if a.view.Kind == view.Group && a.view.Opts.Moves && solid[kid.id] && kid.kind == rests && (dx != 0 || dy != 0) {
			m.endMove(kid)
			kid.move, kid.dx, kid.dy, kid.moveDur = away, dx, dy, a.view.Opts.Move
			m.second(kid, ofMove)
		}
	}
	for _, kid := range a.kids {
		m.shift(kid, before, after, solid)
	}
}

func (m *model) Unmount() api.Errno {
	if m.top == nil {
		return api.ErrMount
	}
	m.destroy(m.top)
	m.view = view.Node{}
	return api.OK
}

func (m *model) Tick(n int) api.Errno {
	if n < 0 {
		return api.ErrArg
	}
	end := min(m.now+n, 1<<40)
	for {
		l := m.pending()
		at := slices.IndexFunc(l, func(p sched.Pending) bool { return !p.Ref.Frame })
		if at < 0 || l[at].Deadline > end {
			m.now = end
			return api.OK
		}
		m.now = max(m.now, l[at].Deadline)
		a := m.find(l[at].Job.Node)
		if l[at].Job.Kind == ofMove {
			m.moveFinish(a)
		} else {
			m.finish(a)
			m.proceed(a.up)
		}
	}
}

func (m *model) Frame() {
	var due []sched.Pending
	for i := range m.jobs {
		if m.jobs[i].Ref.Frame {
			m.jobs[i].Left--
		}
	}
	for _, p := range m.pending() {
		if p.Ref.Frame && p.Left == 0 {
			due = append(due, p)
		}
	}
	m.jobs = slices.DeleteFunc(m.jobs, func(p sched.Pending) bool { return p.Ref.Frame && p.Left == 0 })
	for _, p := range due {
		a := m.find(p.Job.Node)
		switch {
		case p.Job.Kind == ofMove:
			a.move, a.dx, a.dy = back, 0, 0
			m.after(a, ofMove, a.moveDur)
		case a.kind == enterFrom:
			a.kind = enterTo
			m.after(a, ofTransition, a.dur)
		case a.kind == leaveFrom:
			a.kind = leaveTo
			m.after(a, ofTransition, a.dur)
		}
	}
}

func (m *model) End(id int) api.Errno {
	return m.over(id, func(a *actor) {
		m.finish(a)
		m.moveFinish(a)
	})
}

func (m *model) Cancel(id int) api.Errno { return m.over(id, m.cancel) }

func (m *model) over(id int, act func(*actor)) api.Errno {
	a := m.find(id)
	if a == nil {
		return api.ErrNode
	}
	if a.plays() {
		act(a)
		m.proceed(a.up)
	}
	return api.OK
}

func choose[T any](r *rand.Rand, l ...T) T { return l[r.Intn(len(l))] }

// written is a view as a text. A plain one may be the kid of a Group or Slot.
func written(r *rand.Rand, deep int, key string, plain bool) string {
	if !plain && key == "" && r.Intn(4) == 0 {
		return choose(r, "''", "'hi'", "'a b'", "'x'")
	}
	words := []string{choose(r, "p", "p", "ul")}
	if key != "" {
		words = append(words, "#"+key)
	}
	words = append(words, choose(r, "", "", ".a", ".b .a", ".on"), choose(r, "", "", "@a=1", "@b= @a=x"))
	words = append(words, choose(r, "", "", "h=2", "w=4 h=1", "pad=1", "flow=1 gap=1", "flow=2 cols=2"))
	kind := 0
	if !plain {
		kind = r.Intn(3)
	}
	var kids []string
	switch kind {
	case 0:
		keys := r.Perm(2)
		for range r.Intn(4) {
			key := ""
			if len(keys) > 0 && r.Intn(3) == 0 {
				key, keys = string(rune('u'+keys[0])), keys[1:]
			}
			if deep > 1 {
				kids = append(kids, written(r, deep-1, key, false))
			}
		}
	case 1:
		words = append(words, "!group", fmt.Sprintf("!move=%d", r.Intn(3)), choose(r, "!moves", "!moves", ""))
		for _, n := range r.Perm(4)[:r.Intn(5)] {
			if deep > 1 {
				kids = append(kids, written(r, deep-1, string(rune('a'+n)), true))
			}
		}
	case 2:
		words = append(words, "!slot", choose(r, "", "!out-in", "!in-out"))
		if deep > 1 && r.Intn(5) > 0 {
			kids = append(kids, written(r, deep-1, choose(r, "a", "b", "c"), true))
		}
	}
	if kind > 0 {
		words = append(words, fmt.Sprintf("!enter=%d !leave=%d", r.Intn(4), r.Intn(4)), choose(r, "!appear", "", ""))
	}
	return "(" + strings.Join(append(words, kids...), " ") + ")"
}
