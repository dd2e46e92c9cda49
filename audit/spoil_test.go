package audit_test

import (
	"math/rand"
	"slices"

	"scrim/audit"
	"scrim/dress"
	"scrim/hooks"
	"scrim/props"
	"scrim/sched"
	"scrim/still"
	"scrim/view"
	"scrim/wheel"
)

// reserved are all classes that looks have, in ascending order.
var reserved = []string{"t-enter-active", "t-enter-from", "t-enter-to", "t-hold", "t-leave-active", "t-leave-from", "t-leave-to", "t-move", "t-wait"}

// places are a tree and everything below it, where they can be changed.
func places(t *still.Tree) []*still.Tree {
	l := []*still.Tree{t}
	for i := range t.Kids {
		l = append(l, places(&t.Kids[i])...)
	}
	return l
}

// spoil changes something of a picture, in memory of its own.
func spoil(r *rand.Rand, p *audit.Picture) {
	switch r.Intn(12) {
	case 0:
		p.Mounted = !p.Mounted
	case 1:
		p.Now += r.Intn(7) - 2
	case 2:
		p.View = choose(r, view.Node{}, view.Node{Kind: view.Text, Text: "hi"}, view.Node{Kind: view.Element, Tag: "p"})
	case 3, 4:
		p.Kids = spoilKids(r, p.Kids)
	case 5, 6:
		p.Pending = spoilPending(r, p.Pending)
	case 7:
		p.Hooks = spoilHooks(r, p.Hooks)
	default:
		l := places(&p.Tree)
		spoilNode(r, l[r.Intn(len(l))])
	}
}

func someLook(r *rand.Rand) dress.Look {
	l := dress.Look{Kind: r.Intn(7)}
	if r.Intn(3) == 0 {
		l = dress.Look{Move: r.Intn(3)}
	}
	if r.Intn(10) == 0 {
		l = dress.Look{Kind: r.Intn(10) - 1, Move: r.Intn(5) - 1}
	}
	if l.Move != 0 {
		l.DX, l.DY = r.Intn(3)-1, r.Intn(3)-1
	}
	return l
}

func spoilKids(r *rand.Rand, kids []audit.Kid) []audit.Kid {
	if len(kids) == 0 {
		return []audit.Kid{{ID: r.Intn(4), Look: someLook(r)}}
	}
	at := r.Intn(len(kids))
	switch r.Intn(4) {
	case 0:
		return slices.Delete(kids, at, at+1)
	case 1:
		return append(kids, audit.Kid{ID: choose(r, kids[at].ID, 99), Look: someLook(r)})
	case 2:
		kids[at].ID = choose(r, 0, -1, 1, 2, 99)
	default:
		kids[at].Look = someLook(r)
	}
	return kids
}

func someJob(r *rand.Rand) sched.Pending {
	j := sched.Pending{Ref: sched.Ref{Frame: r.Intn(2) == 0, Token: r.Intn(9)}, Job: wheel.Job{Kind: choose(r, 1, 1, 2, 2, 0, 3), Node: r.Intn(9)}}
	if j.Ref.Frame {
		j.Left = choose(r, 1, 2, 1, 2, 0, 3, -1)
	} else {
		j.Deadline = r.Intn(6) - 1
	}
	return j
}

func spoilPending(r *rand.Rand, l []sched.Pending) []sched.Pending {
	if len(l) == 0 || r.Intn(4) == 0 {
		return append(l, someJob(r))
	}
	at := r.Intn(len(l))
	switch r.Intn(7) {
	case 0:
		return slices.Delete(l, at, at+1)
	case 1:
		return append(l, l[at])
	case 2:
		l[at].Job.Kind = r.Intn(4)
	case 3:
		l[at].Job.Node = r.Intn(9)
	case 4:
		l[at].Ref.Frame = !l[at].Ref.Frame
	case 5:
		l[at].Left += r.Intn(5) - 2
	default:
		l[at].Deadline += r.Intn(7) - 4
	}
	return l
}

func spoilHooks(r *rand.Rand, l hooks.Log) hooks.Log {
	if len(l) == 0 || r.Intn(2) == 0 {
		return append(l, hooks.Entry{Group: r.Intn(3), Node: 2, Hook: r.Intn(9), Key: choose(r, "a", "b")})
	}
	at := r.Intn(len(l))
	return slices.Delete(l, at, at+1)
}

func spoilNode(r *rand.Rand, n *still.Tree) {
	switch r.Intn(8) {
	case 0, 1:
		n.Classes = slices.Insert(slices.Clone(n.Classes), r.Intn(len(n.Classes)+1), choose(r, append(reserved, "t-x", "t-", "on", "")...))
	case 2:
		if len(n.Classes) > 0 {
			at := r.Intn(len(n.Classes))
			n.Classes = slices.Delete(slices.Clone(n.Classes), at, at+1)
		}
	case 3:
		n.Attrs = append(slices.Clone(n.Attrs), props.Pair[string]{Name: choose(r, "t-ghost", "t-x", "a"), Value: choose(r, "", "1")})
	case 4:
		n.Attrs = slices.DeleteFunc(slices.Clone(n.Attrs), func(p props.Pair[string]) bool { return p.Name == "t-ghost" })
	case 5:
		n.Styles = append(slices.Clone(n.Styles), props.Pair[int]{Name: choose(r, "t-dx", "t-dy", "t-dy", "t-x", "w"), Value: r.Intn(3) - 1})
	case 6:
		name := choose(r, "t-dx", "t-dy")
		n.Styles = slices.DeleteFunc(slices.Clone(n.Styles), func(p props.Pair[int]) bool { return p.Name == name })
	default:
		spoilShape(r, n)
	}
}

func spoilShape(r *rand.Rand, n *still.Tree) {
	kid := still.Tree{ID: choose(r, 0, 1, 2, 99), Kind: choose(r, 1, 2), Tag: "p"}
	switch {
	case len(n.Kids) == 0 || r.Intn(3) == 0:
		n.Kids = slices.Insert(slices.Clone(n.Kids), r.Intn(len(n.Kids)+1), kid)
	case r.Intn(2) == 0:
		n.Kids = slices.Clone(n.Kids[1:])
	default:
		n.ID = choose(r, 0, 1, 2, 3, 99)
	}
}

// wild is a picture of which nothing belongs together.
func wild(r *rand.Rand) audit.Picture {
	p := audit.Picture{Tree: still.Tree{Kind: 2, Tag: "root", Kids: []still.Tree{{ID: 1, Kind: 2, Tag: "p"}}}, Mounted: r.Intn(2) == 0, Now: r.Intn(3)}
	for range r.Intn(9) {
		l := places(&p.Tree)
		spoilNode(r, l[r.Intn(len(l))])
	}
	for range r.Intn(5) {
		p.Kids = append(p.Kids, audit.Kid{ID: choose(r, 0, 1, 1, 2, 3, 99), Look: someLook(r)})
	}
	for range r.Intn(4) {
		p.Pending = append(p.Pending, someJob(r))
	}
	for range r.Intn(3) {
		p.Hooks = spoilHooks(r, p.Hooks)
	}
	if r.Intn(2) == 0 {
		p.View = view.Node{Kind: view.Element, Tag: "p"}
	}
	return p
}
