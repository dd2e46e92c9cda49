package audit

import (
	"slices"

	"scrim/dress"
	"scrim/sched"
	"scrim/wheel"
)

// Kinds of jobs: what of a kid waits.
const (
	transition = iota + 1
	move
)

// wait is a job that waits, either for frames or for a timer.
type wait struct {
	job   wheel.Job
	frame bool
}

// waits returns what waits for each node.
func (p Picture) waits() map[int][]wait {
	l := map[int][]wait{}
	for _, j := range p.Pending {
		l[j.Job.Node] = append(l[j.Job.Node], wait{j.Job, j.Ref.Frame})
	}
	return l
}

// due returns what is to wait for a kid, by its look.
func (k Kid) due() []wait {
	var l []wait
	add := func(kind int, frame bool) {
		l = append(l, wait{wheel.Job{Kind: kind, Node: k.ID}, frame})
	}
	switch k.Look.Kind {
	case dress.EnterFrom, dress.LeaveFrom:
		add(transition, true)
	case dress.EnterTo, dress.LeaveTo:
		add(transition, false)
	}
	switch k.Look.Move {
	case dress.Away:
		add(move, true)
	case dress.Back:
		add(move, false)
	}
	return l
}

// awaited reports whether exactly that waits which is due. No job is due twice, so that
// as many jobs as are due, with each of them, are exactly those.
func (k Kid) awaited(waits []wait) bool {
	due := k.due()
	missing := func(w wait) bool { return !slices.Contains(waits, w) }
	return len(waits) == len(due) && !slices.ContainsFunc(due, missing)
}

// timely reports whether a job is one that can wait: it is of a Kind that exists, and its
// time has not passed.
func (p Picture) timely(j sched.Pending) bool {
	if j.Job.Kind != transition && j.Job.Kind != move {
		return false
	}
	if j.Ref.Frame {
		return j.Left == 1 || j.Left == 2
	}
	return j.Deadline >= p.Now
}
