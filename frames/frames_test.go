package frames_test

import (
	"math"
	"math/rand"
	"slices"
	"testing"

	"scrim/api"
	"scrim/frames"
	"scrim/wheel"
)

// filled is a Queue with so many jobs, of which each is another one.
func filled(t *testing.T, most, many int) *frames.Queue {
	t.Helper()
	q := frames.New(most)
	for i := range many {
		if token, e := q.Ask(wheel.Job{Kind: i % 2, Node: 7 * i}); token != i+1 || e != api.OK {
			t.Fatalf("job %d is %d %d", i, token, e)
		}
	}
	return q
}

// tokens of jobs, in their order.
func tokens(l []frames.Wait) []int {
	var all []int
	for _, w := range l {
		all = append(all, w.Token)
	}
	return all
}

// P17.1: the document's example, with everything else that is returned.
func TestExample(t *testing.T) {
	a, b := wheel.Job{Kind: 1, Node: 5}, wheel.Job{Kind: 2, Node: 4}
	q := frames.New(9)
	if token, e := q.Ask(a); token != 1 || e != api.OK {
		t.Errorf("Ask a is %d %d", token, e)
	}
	if due := q.Frame(); len(due) != 0 {
		t.Errorf("the first Frame is %v", due)
	}
	if token, e := q.Ask(b); token != 2 || e != api.OK || q.Len() != 2 {
		t.Errorf("Ask b is %d %d", token, e)
	}
	if l := q.List(); !slices.Equal(l, []frames.Wait{{Token: 1, Left: 1, Job: a}, {Token: 2, Left: 2, Job: b}}) {
		t.Errorf("List is %v", l)
	}
	if due := q.Frame(); !slices.Equal(due, []frames.Wait{{Token: 1, Job: a}}) || q.Len() != 1 {
		t.Errorf("the next Frame is %v", due)
	}
	if l := q.List(); !slices.Equal(l, []frames.Wait{{Token: 2, Left: 1, Job: b}}) {
		t.Errorf("List is %v", l)
	}
	if due := q.Frame(); !slices.Equal(due, []frames.Wait{{Token: 2, Job: b}}) {
		t.Errorf("the one after that is %v", due)
	}
	if due := q.Frame(); len(due) != 0 || q.Len() != 0 || len(q.List()) != 0 {
		t.Errorf("at the end, %v", due)
	}
}

// P17.1: as many jobs as permitted. One that was rejected has used up no token,
// and whatever makes room does so for one more.
func TestMost(t *testing.T) {
	for _, c := range []struct{ most, room int }{
		{math.MinInt, 1}, {-1, 1}, {0, 1}, {1, 1}, {2, 2}, {65535, 65535}, {65536, 65536}, {65537, 65536}, {math.MaxInt, 65536},
	} {
		q := filled(t, c.most, c.room)
		before := q.List()
		for range 2 {
			if token, e := q.Ask(wheel.Job{}); token != 0 || e != api.ErrTimers || q.Len() != c.room {
				t.Errorf("one more than %d: %d %d", c.most, token, e)
			}
		}
		if !slices.Equal(q.List(), before) {
			t.Errorf("one more than %d has changed something", c.most)
		}
		if due := q.Frame(); len(due) != 0 {
			t.Errorf("%d are due too early", len(due))
		}
		if token, e := q.Ask(wheel.Job{}); token != 0 || e != api.ErrTimers {
			t.Errorf("one more than %d after a frame: %d %d", c.most, token, e)
		}
		if !q.Cancel(1) || q.Cancel(1) {
			t.Errorf("Cancel of %d", c.most)
		}
		if token, e := q.Ask(wheel.Job{}); token != c.room+1 || e != api.OK || q.Len() != c.room {
			t.Errorf("after Cancel of %d: %d %d", c.most, token, e)
		}
		if due := q.Frame(); len(due) != c.room-1 || q.Len() != 1 {
			t.Errorf("%d of %d are due", len(due), c.most)
		}
		for i := 1; i < c.room; i++ {
			if token, e := q.Ask(wheel.Job{}); token != c.room+1+i || e != api.OK {
				t.Fatalf("after the frame of %d: %d %d", c.most, token, e)
			}
		}
		if token, e := q.Ask(wheel.Job{}); token != 0 || e != api.ErrTimers {
			t.Errorf("again one more than %d: %d %d", c.most, token, e)
		}
	}
}

// P17.1: tokens of which there is no job, or no longer one.
func TestCancelNothing(t *testing.T) {
	q := filled(t, 9, 2)
	q.Cancel(2)
	q.Frame()
	q.Ask(wheel.Job{})
	q.Frame()
	q.Ask(wheel.Job{})
	q.Cancel(4)
	for _, token := range []int{math.MinInt, -1, 0, 1, 2, 4, 5, math.MaxInt} {
		if q.Cancel(token) {
			t.Errorf("%d was cancelled", token)
		}
	}
	if got := q.List(); !slices.Equal(got, []frames.Wait{{Token: 3, Left: 1}}) {
		t.Errorf("List is %v", got)
	}
}

// P17.1: one job of each row is cancelled, wherever it stands there.
func TestCancelAnywhere(t *testing.T) {
	for token := 1; token <= 6; token++ {
		q := filled(t, 9, 3)
		q.Frame()
		for i := range 3 {
			q.Ask(wheel.Job{Node: i})
		}
		if !q.Cancel(token) || q.Cancel(token) {
			t.Errorf("Cancel of %d", token)
		}
		rest := slices.DeleteFunc([]int{1, 2, 3, 4, 5, 6}, func(x int) bool { return x == token })
		if got := tokens(q.List()); !slices.Equal(got, rest) {
			t.Errorf("without %d, List is %v", token, got)
		}
		if got := append(tokens(q.Frame()), tokens(q.Frame())...); !slices.Equal(got, rest) {
			t.Errorf("without %d, %v are due", token, got)
		}
	}
}

// P17.1: every short row of calls.
func TestAllShortRows(t *testing.T) {
	var grow func(calls []int)
	grow = func(calls []int) {
		q, m := frames.New(3), newModel(3)
		for i, c := range calls {
			switch c {
			case 0:
				ask(t, q, m, wheel.Job{Kind: i, Node: -i})
			case 1:
				frame(t, q, m)
			default:
				cancel(t, q, m, c-1)
			}
		}
		agree(t, q, m)
		for range 3 {
			frame(t, q, m)
		}
		if len(calls) < 7 {
			for c := range 5 {
				grow(append(slices.Clone(calls), c))
			}
		}
	}
	grow(nil)
}

// pair is a Queue and its model.
type pair struct {
	q *frames.Queue
	m *model
}

// some does something with a pair that is chosen.
func some(t *testing.T, r *rand.Rand, p pair) {
	t.Helper()
	switch r.Intn(7) {
	case 0, 1, 2, 3:
		ask(t, p.q, p.m, wheel.Job{Kind: r.Intn(3), Node: r.Intn(5)})
	case 4, 5:
		cancel(t, p.q, p.m, r.Intn(len(p.m.jobs)+3)-1)
	case 6:
		frame(t, p.q, p.m)
	}
}

// P17.1: any calls in any order, on clones too, each of which goes its own way.
func TestAgainstModel(t *testing.T) {
	r := rand.New(rand.NewSource(17))
	for range 400 {
		most := r.Intn(20) - 1
		all := []pair{{frames.New(most), newModel(most)}}
		if most < 1 {
			all = append(all, pair{&frames.Queue{}, newModel(0)})
		}
		for range 150 {
			p := all[r.Intn(len(all))]
			some(t, r, p)
			if r.Intn(40) == 0 {
				all = append(all, pair{p.q.Clone(), p.m.clone()})
			}
			for _, p := range all {
				agree(t, p.q, p.m)
			}
		}
	}
}

// P17.2: each job is returned once, at the second frame after it was added, if it
// was not cancelled.
func TestSecondFrame(t *testing.T) {
	r := rand.New(rand.NewSource(18))
	for range 40 {
		q := frames.New(500)
		var want, got [40][]int
		for now := range want {
			for _, w := range q.Frame() {
				got[now] = append(got[now], w.Token)
			}
			for range r.Intn(50) {
				token, e := q.Ask(wheel.Job{Node: now})
				if e == api.OK && now+2 < len(want) {
					want[now+2] = append(want[now+2], token)
				}
			}
			for due := now + 1; due <= now+2 && due < len(want); due++ {
				want[due] = slices.DeleteFunc(want[due], func(token int) bool { return r.Intn(4) == 0 && q.Cancel(token) })
			}
		}
		for now := range want {
			if !slices.Equal(got[now], want[now]) {
				t.Fatalf("frame %d returned %v, wanted %v", now, got[now], want[now])
			}
		}
	}
}

// Rule 5: a Clone and its original are independent, and all results are new memory.
func TestMemory(t *testing.T) {
	q := filled(t, 5, 2)
	q.Frame()
	q.Ask(wheel.Job{Node: 3})
	q.Ask(wheel.Job{Node: 4})
	c := q.Clone()
	q.Cancel(1)
	q.Cancel(3)
	q.Ask(wheel.Job{Node: 5})
	c.Cancel(2)
	c.Ask(wheel.Job{Node: 6})
	for _, l := range [][]frames.Wait{q.List(), c.List()} {
		clear(l[:cap(l)])
	}
	one := []frames.Wait{{Token: 2, Left: 1, Job: wheel.Job{Kind: 1, Node: 7}}, {Token: 4, Left: 2, Job: wheel.Job{Node: 4}}, {Token: 5, Left: 2, Job: wheel.Job{Node: 5}}}
	other := []frames.Wait{{Token: 1, Left: 1}, {Token: 3, Left: 2, Job: wheel.Job{Node: 3}}, {Token: 4, Left: 2, Job: wheel.Job{Node: 4}}, {Token: 5, Left: 2, Job: wheel.Job{Node: 6}}}
	if !slices.Equal(q.List(), one) || !slices.Equal(c.List(), other) {
		t.Errorf("the original has %v, and the clone %v", q.List(), c.List())
	}
	due := q.Frame()
	clear(due[:cap(due)])
	due = append(due[:0], frames.Wait{Token: 9}, frames.Wait{Token: 9})
	if got := q.Frame(); !slices.Equal(tokens(got), []int{4, 5}) || due[0].Token != 9 {
		t.Errorf("Frame is %v, after %v", got, due)
	}
	if got := append(tokens(c.Frame()), tokens(c.Frame())...); !slices.Equal(got, []int{1, 3, 4, 5}) {
		t.Errorf("the frames of the clone are %v", got)
	}
}

// P1: a zero Queue has no jobs, and the least room there may be.
func TestZero(t *testing.T) {
	for _, q := range []*frames.Queue{{}, (&frames.Queue{}).Clone()} {
		m := newModel(0)
		agree(t, q, m)
		cancel(t, q, m, 0)
		cancel(t, q, m, 1)
		frame(t, q, m)
		ask(t, q, m, wheel.Job{Node: 4})
		c, k := q.Clone(), m.clone()
		ask(t, q, m, wheel.Job{})
		cancel(t, q, m, 1)
		ask(t, q, m, wheel.Job{Kind: 1})
		for range 3 {
			frame(t, q, m)
			frame(t, c, k)
			agree(t, q, m)
			agree(t, c, k)
		}
	}
}
