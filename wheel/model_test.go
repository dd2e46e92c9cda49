package wheel_test

import (
	"slices"
	"testing"

	"scrim/api"
	"scrim/wheel"
)

const lastTick = 1 << 40

// model is a Wheel, spelt out independently of the program: all timers that ever
// were added, in the order of their tokens, and which of them are gone.
type model struct {
	most  int
	added []wheel.Timer
	gone  []bool
}

func newModel(most int) *model { return &model{most: min(max(most, 1), 65536)} }

func (m *model) clone() *model {
	return &model{m.most, slices.Clone(m.added), slices.Clone(m.gone)}
}

func (m *model) length() int {
	n := 0
	for _, gone := range m.gone {
		if !gone {
			n++
		}
	}
	return n
}

func (m *model) add(deadline int, j wheel.Job) (int, api.Errno) {
	if m.length() >= m.most {
		return 0, api.ErrTimers
	}
	token := len(m.added) + 1
	m.added = append(m.added, wheel.Timer{Token: token, Deadline: min(max(deadline, 0), lastTick), Job: j})
	m.gone = append(m.gone, false)
	return token, api.OK
}

func (m *model) cancel(token int) bool {
	if token < 1 || token > len(m.added) || m.gone[token-1] {
		return false
	}
	m.gone[token-1] = true
	return true
}

// next is the timer that is due first: the first one with the least deadline.
func (m *model) next() (wheel.Timer, bool) {
	var first wheel.Timer
	found := false
	for i, t := range m.added {
		if !m.gone[i] && (!found || t.Deadline < first.Deadline) {
			first, found = t, true
		}
	}
	return first, found
}

func (m *model) due(now int) (wheel.Timer, bool) {
	t, found := m.next()
	if !found || t.Deadline > now {
		return wheel.Timer{}, false
	}
	return t, m.cancel(t.Token)
}

// list takes one timer after the other from a clone.
func (m *model) list() []wheel.Timer {
	var l []wheel.Timer
	c := m.clone()
	for t, more := c.next(); more; t, more = c.next() {
		l = append(l, t)
		c.cancel(t.Token)
	}
	return l
}

// agree asks a Wheel everything that changes nothing.
func agree(t *testing.T, w *wheel.Wheel, m *model) {
	t.Helper()
	want := m.list()
	if got := w.List(); !slices.Equal(got, want) || w.Len() != len(want) {
		t.Fatalf("%d timers: %v, wanted %v", w.Len(), got, want)
	}
}

// add, cancel and due do the same with both, and hold the results against each
// other.
func add(t *testing.T, w *wheel.Wheel, m *model, deadline int, j wheel.Job) {
	t.Helper()
	got, e := w.Add(deadline, j)
	if want, wanted := m.add(deadline, j); got != want || e != wanted {
		t.Fatalf("Add of %d is %d %d, wanted %d %d", deadline, got, e, want, wanted)
	}
}

func cancel(t *testing.T, w *wheel.Wheel, m *model, token int) {
	t.Helper()
	got := w.Cancel(token)
	if want := m.cancel(token); got != want {
		t.Fatalf("Cancel of %d is %v", token, got)
	}
}

func due(t *testing.T, w *wheel.Wheel, m *model, now int) {
	t.Helper()
	got, is := w.Due(now)
	if want, there := m.due(now); got != want || is != there {
		t.Fatalf("Due at %d is %v %v, wanted %v %v", now, got, is, want, there)
	}
}
