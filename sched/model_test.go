package sched_test

import (
	"slices"
	"testing"

	"scrim/api"
	"scrim/sched"
	"scrim/wheel"
)

const lastTick = 1 << 40

// model is a Sched, spelt out independently of the program: what waits, in the
// order in which it was added, whatever it waits for.
type model struct {
	most, now      int
	frames, timers int // how many were added so far
	waits          []sched.Pending
}

func newModel(most int) *model { return &model{most: min(max(most, 1), 65536)} }

func (m *model) clone() *model {
	c := *m
	c.waits = slices.Clone(m.waits)
	return &c
}

func (m *model) second(j wheel.Job) (sched.Ref, api.Errno) {
	if len(m.waits) >= m.most {
		return sched.Ref{}, api.ErrTimers
	}
	m.frames++
	r := sched.Ref{Frame: true, Token: m.frames}
	m.waits = append(m.waits, sched.Pending{Ref: r, Job: j, Left: 2})
	return r, api.OK
}

func (m *model) after(d int, j wheel.Job) (sched.Ref, api.Errno) {
	if len(m.waits) >= m.most {
		return sched.Ref{}, api.ErrTimers
	}
	m.timers++
	r := sched.Ref{Token: m.timers}
	deadline := min(m.now+min(max(d, 0), lastTick), lastTick)
	m.waits = append(m.waits, sched.Pending{Ref: r, Job: j, Deadline: deadline})
	return r, api.OK
}

func (m *model) cancel(r sched.Ref) bool {
	for i, p := range m.waits {
		if p.Ref == r {
			m.waits = slices.Delete(m.waits, i, i+1)
			return true
		}
	}
	return false
}

// list has what waits for frames before the timers, and these by their deadlines.
// All else stays in the order in which it was added.
func (m *model) list() []sched.Pending {
	rank := func(p sched.Pending) int {
		if p.Ref.Frame {
			return -1
		}
		return p.Deadline
	}
	l := slices.Clone(m.waits)
	slices.SortStableFunc(l, func(a, b sched.Pending) int { return rank(a) - rank(b) })
	return l
}

func (m *model) frame() []wheel.Job {
	var due []wheel.Job
	var rest []sched.Pending
	for _, p := range m.waits {
		if p.Ref.Frame {
			p.Left--
		}
		if p.Ref.Frame && p.Left == 0 {
			due = append(due, p.Job)
		} else {
			rest = append(rest, p)
		}
	}
	m.waits = rest
	return due
}

func (m *model) until(now int) (wheel.Job, bool) {
	end := max(min(now, lastTick), m.now)
	for _, p := range m.list() {
		if !p.Ref.Frame && p.Deadline <= end {
			m.now = max(m.now, p.Deadline)
			return p.Job, m.cancel(p.Ref)
		}
	}
	m.now = end
	return wheel.Job{}, false
}

// agree asks a Sched everything that changes nothing.
func agree(t *testing.T, s *sched.Sched, m *model) {
	t.Helper()
	want := m.list()
	if got := s.List(); !slices.Equal(got, want) || s.Len() != len(want) {
		t.Fatalf("%d jobs: %v, wanted %v", s.Len(), got, want)
	}
	if s.Now() != m.now {
		t.Fatalf("the clock is %d, wanted %d", s.Now(), m.now)
	}
}

// second, after, cancel, frame and until do the same with both, and hold the
// results against each other.
func second(t *testing.T, s *sched.Sched, m *model, j wheel.Job) {
	t.Helper()
	got, e := s.Second(j)
	if want, wanted := m.second(j); got != want || e != wanted {
		t.Fatalf("Second is %v %d, wanted %v %d", got, e, want, wanted)
	}
}

func after(t *testing.T, s *sched.Sched, m *model, d int, j wheel.Job) {
	t.Helper()
	got, e := s.After(d, j)
	if want, wanted := m.after(d, j); got != want || e != wanted {
		t.Fatalf("After %d is %v %d, wanted %v %d", d, got, e, want, wanted)
	}
}

func cancel(t *testing.T, s *sched.Sched, m *model, r sched.Ref) {
	t.Helper()
	got := s.Cancel(r)
	if want := m.cancel(r); got != want {
		t.Fatalf("Cancel of %v is %v", r, got)
	}
}

func frame(t *testing.T, s *sched.Sched, m *model) {
	t.Helper()
	got := s.Frame()
	if want := m.frame(); !slices.Equal(got, want) {
		t.Fatalf("Frame is %v, wanted %v", got, want)
	}
}

func until(t *testing.T, s *sched.Sched, m *model, now int) {
	t.Helper()
	got, is := s.Until(now)
	if want, there := m.until(now); got != want || is != there {
		t.Fatalf("Until %d is %v %v, wanted %v %v", now, got, is, want, there)
	}
	if s.Now() != m.now {
		t.Fatalf("after Until %d, the clock is %d, wanted %d", now, s.Now(), m.now)
	}
}
