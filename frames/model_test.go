package frames_test

import (
	"slices"
	"testing"

	"scrim/api"
	"scrim/frames"
	"scrim/wheel"
)

// asked is a job, at which frame it was added, and whether it waits no more.
type asked struct {
	job   wheel.Job
	frame int
	gone  bool
}

// model is a Queue, spelt out independently of the program: how many frames there
// were, and all jobs that ever were added, in the order of their tokens.
type model struct {
	most, frames int
	jobs         []asked
}

func newModel(most int) *model { return &model{most: min(max(most, 1), 65536)} }

func (m *model) clone() *model {
	return &model{m.most, m.frames, slices.Clone(m.jobs)}
}

// list has the jobs that wait, each with what is missing to the second frame.
func (m *model) list() []frames.Wait {
	var l []frames.Wait
	for i, a := range m.jobs {
		if !a.gone {
			l = append(l, frames.Wait{Token: i + 1, Left: a.frame + 2 - m.frames, Job: a.job})
		}
	}
	return l
}

func (m *model) ask(j wheel.Job) (int, api.Errno) {
	if len(m.list()) >= m.most {
		return 0, api.ErrTimers
	}
	m.jobs = append(m.jobs, asked{job: j, frame: m.frames})
	return len(m.jobs), api.OK
}

func (m *model) cancel(token int) bool {
	if token < 1 || token > len(m.jobs) || m.jobs[token-1].gone {
		return false
	}
	m.jobs[token-1].gone = true
	return true
}

func (m *model) frame() []frames.Wait {
	m.frames++
	var due []frames.Wait
	for _, w := range m.list() {
		if w.Left == 0 {
			due = append(due, w)
			m.cancel(w.Token)
		}
	}
	return due
}

// agree asks a Queue everything that changes nothing.
func agree(t *testing.T, q *frames.Queue, m *model) {
	t.Helper()
	want := m.list()
	if got := q.List(); !slices.Equal(got, want) || q.Len() != len(want) {
		t.Fatalf("%d jobs: %v, wanted %v", q.Len(), got, want)
	}
}

// ask, cancel and frame do the same with both, and hold the results against each
// other.
func ask(t *testing.T, q *frames.Queue, m *model, j wheel.Job) {
	t.Helper()
	got, e := q.Ask(j)
	if want, wanted := m.ask(j); got != want || e != wanted {
		t.Fatalf("Ask is %d %d, wanted %d %d", got, e, want, wanted)
	}
}

func cancel(t *testing.T, q *frames.Queue, m *model, token int) {
	t.Helper()
	got := q.Cancel(token)
	if want := m.cancel(token); got != want {
		t.Fatalf("Cancel of %d is %v", token, got)
	}
}

func frame(t *testing.T, q *frames.Queue, m *model) {
	t.Helper()
	got := q.Frame()
	if want := m.frame(); !slices.Equal(got, want) {
		t.Fatalf("Frame is %v, wanted %v", got, want)
	}
}
