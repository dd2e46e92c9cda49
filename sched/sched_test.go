package sched_test

import (
	"math"
	"math/rand"
	"slices"
	"testing"

	"scrim/api"
	"scrim/sched"
	"scrim/wheel"
)

// node is a job that is told apart by its node.
func node(id int) wheel.Job { return wheel.Job{Kind: 1, Node: id} }

func frameRef(token int) sched.Ref { return sched.Ref{Frame: true, Token: token} }

func timerRef(token int) sched.Ref { return sched.Ref{Token: token} }

// wantUntil holds the job of Until and the clock after it against these.
func wantUntil(t *testing.T, s *sched.Sched, now int, want wheel.Job, is bool, clock int) {
	t.Helper()
	if got, there := s.Until(now); got != want || there != is || s.Now() != clock {
		t.Errorf("Until %d is %v %v at %d, wanted %v %v at %d", now, got, there, s.Now(), want, is, clock)
	}
}

// P18.1: the document's example.
func TestExample(t *testing.T) {
	a, b, c := node(1), node(2), node(3)
	s := sched.New(9)
	if r, e := s.After(3, a); r != timerRef(1) || e != api.OK {
		t.Errorf("After 3 is %v %d", r, e)
	}
	if r, e := s.After(1, b); r != timerRef(2) || e != api.OK || s.Now() != 0 {
		t.Errorf("After 1 is %v %d", r, e)
	}
	wantUntil(t, s, 9, b, true, 1)
	if r, e := s.After(1, c); r != timerRef(3) || e != api.OK {
		t.Errorf("After 1 is %v %d", r, e)
	}
	wantUntil(t, s, 9, c, true, 2)
	wantUntil(t, s, 9, a, true, 3)
	wantUntil(t, s, 9, wheel.Job{}, false, 9)
	if s.Len() != 0 || len(s.List()) != 0 {
		t.Errorf("List is %v", s.List())
	}
}

// P18.1: List has the jobs for frames first, and then the timers by their
// deadlines; tokens of each kind are numbered from 1 on.
func TestList(t *testing.T) {
	s := sched.New(9)
	for _, c := range []struct {
		add  func() (sched.Ref, api.Errno)
		want sched.Ref
	}{
		{func() (sched.Ref, api.Errno) { return s.After(7, node(1)) }, timerRef(1)},
		{func() (sched.Ref, api.Errno) { return s.Second(node(2)) }, frameRef(1)},
		{func() (sched.Ref, api.Errno) { s.Frame(); return s.After(5, node(3)) }, timerRef(2)},
		{func() (sched.Ref, api.Errno) { return s.Second(node(4)) }, frameRef(2)},
		{func() (sched.Ref, api.Errno) { return s.After(7, node(5)) }, timerRef(3)},
		{func() (sched.Ref, api.Errno) { return s.After(0, node(6)) }, timerRef(4)},
	} {
		if r, e := c.add(); r != c.want || e != api.OK {
			t.Errorf("%v %d, wanted %v", r, e, c.want)
		}
	}
	want := []sched.Pending{
		{Ref: frameRef(1), Job: node(2), Left: 1},
		{Ref: frameRef(2), Job: node(4), Left: 2},
		{Ref: timerRef(4), Job: node(6)},
		{Ref: timerRef(2), Job: node(3), Deadline: 5},
		{Ref: timerRef(1), Job: node(1), Deadline: 7},
		{Ref: timerRef(3), Job: node(5), Deadline: 7},
	}
	if got := s.List(); !slices.Equal(got, want) || s.Len() != 6 || s.Now() != 0 {
		t.Errorf("List is %v", got)
	}
}

// P18.1: a Ref identifies a job of its own kind only, and the zero Ref nothing.
func TestCancel(t *testing.T) {
	s := sched.New(9)
	s.Second(node(1))
	s.Second(node(2))
	s.After(4, node(3))
	for _, token := range []int{math.MinInt, -1, 0, 3, math.MaxInt} {
		if s.Cancel(frameRef(token)) || s.Cancel(timerRef(token)) {
			t.Errorf("%d was cancelled", token)
		}
	}
	if s.Cancel(timerRef(2)) || !s.Cancel(timerRef(1)) || s.Cancel(timerRef(1)) || s.Len() != 2 {
		t.Error("Cancel of a timer")
	}
	if !s.Cancel(frameRef(1)) || s.Cancel(frameRef(1)) || s.Len() != 1 {
		t.Error("Cancel of a job for frames")
	}
	s.Frame()
	if got := s.Frame(); !slices.Equal(got, []wheel.Job{node(2)}) || s.Cancel(frameRef(2)) {
		t.Errorf("Frame is %v", got)
	}
	s.After(1, node(4))
	wantUntil(t, s, 9, node(4), true, 1)
	if s.Cancel(timerRef(2)) {
		t.Error("a timer that was due was cancelled")
	}
}

// P18.1: both kinds together are as many as permitted. What was rejected has used
// up no token of either kind, and whatever makes room does so for one more.
func TestMost(t *testing.T) {
	for _, c := range []struct{ most, room int }{
		{math.MinInt, 1}, {-1, 1}, {0, 1}, {1, 1}, {2, 2}, {3, 3}, {65535, 65535}, {65536, 65536}, {65537, 65536}, {math.MaxInt, 65536},
	} {
		for parts := range 4 {
			s, m := sched.New(c.most), newModel(c.most)
			for i := range c.room {
				if i%3 < parts {
					s.Second(node(i))
				} else {
					s.After(i/9, node(i))
				}
			}
			before := s.List()
			for range 2 {
				r, e := s.Second(node(1))
				o, f := s.After(0, node(1))
				if r != (sched.Ref{}) || o != (sched.Ref{}) || e != api.ErrTimers || f != api.ErrTimers {
					t.Errorf("one more than %d: %v %d, %v %d", c.most, r, e, o, f)
				}
			}
			if len(before) != c.room || s.Len() != m.most || !slices.Equal(s.List(), before) || s.Now() != 0 {
				t.Errorf("of %d, %d wait, and %d after one more", c.most, len(before), s.Len())
			}
		}
	}
}

// P18.1: room that one kind leaves is there for the other one.
func TestRoom(t *testing.T) {
	s, m := sched.New(3), newModel(3)
	second(t, s, m, node(1))
	after(t, s, m, 4, node(2))
	after(t, s, m, 5, node(3))
	second(t, s, m, node(4))
	until(t, s, m, 4)
	second(t, s, m, node(5))
	after(t, s, m, 1, node(6))
	frame(t, s, m)
	after(t, s, m, 1, node(6))
	frame(t, s, m)
	after(t, s, m, 1, node(7))
	after(t, s, m, 1, node(8))
	second(t, s, m, node(9))
	cancel(t, s, m, timerRef(2))
	second(t, s, m, node(9))
	agree(t, s, m)
	want := []sched.Pending{
		{Ref: frameRef(3), Job: node(9), Left: 2},
		{Ref: timerRef(3), Job: node(7), Deadline: 5},
		{Ref: timerRef(4), Job: node(8), Deadline: 5},
	}
	if got := s.List(); !slices.Equal(got, want) {
		t.Errorf("List is %v", got)
	}
}

// P18.1: a deadline is so many ticks after the clock, at most the last tick.
func TestDeadlines(t *testing.T) {
	for _, c := range []struct{ now, d, want int }{
		{0, math.MinInt, 0}, {0, -1, 0}, {0, 0, 0}, {0, 1, 1}, {0, math.MaxInt32 + 1, math.MaxInt32 + 1},
		{0, lastTick, lastTick}, {0, lastTick + 1, lastTick}, {0, math.MaxInt, lastTick},
		{7, math.MinInt, 7}, {7, -1, 7}, {7, 0, 7}, {7, 2, 9},
		{7, lastTick - 8, lastTick - 1}, {7, lastTick - 7, lastTick}, {7, lastTick, lastTick}, {7, math.MaxInt, lastTick},
		{lastTick, -5, lastTick}, {lastTick, 0, lastTick}, {lastTick, 1, lastTick}, {lastTick, math.MaxInt, lastTick},
	} {
		s := sched.New(1)
		s.Until(c.now)
		if r, e := s.After(c.d, node(2)); r != timerRef(1) || e != api.OK || s.Now() != c.now {
			t.Errorf("%d after %d: %v %d at %d", c.d, c.now, r, e, s.Now())
		}
		if got := s.List(); !slices.Equal(got, []sched.Pending{{Ref: timerRef(1), Job: node(2), Deadline: c.want}}) {
			t.Errorf("%d after %d: %v, wanted %d", c.d, c.now, got, c.want)
		}
		if c.want > c.now {
			wantUntil(t, s, c.want-1, wheel.Job{}, false, c.want-1)
		}
		wantUntil(t, s, c.want, node(2), true, c.want)
	}
}

// P18.2: the clock never goes back, and it stops at the last tick.
func TestClock(t *testing.T) {
	s := sched.New(2)
	for _, c := range []struct{ until, now int }{
		{math.MinInt, 0}, {-1, 0}, {0, 0}, {5, 5}, {4, 5}, {0, 5}, {math.MinInt, 5}, {math.MaxInt32 + 1, math.MaxInt32 + 1},
		{lastTick - 1, lastTick - 1}, {lastTick, lastTick}, {lastTick + 1, lastTick}, {math.MaxInt, lastTick}, {3, lastTick},
	} {
		wantUntil(t, s, c.until, wheel.Job{}, false, c.now)
	}
	s = sched.New(2)
	wantUntil(t, s, math.MaxInt, wheel.Job{}, false, lastTick)
}

// P18.2: a timer whose deadline is the clock is due whatever is asked for, and the
// clock then stays where it is.
func TestDueAtOnce(t *testing.T) {
	for _, now := range []int{0, 6, lastTick} {
		for _, asked := range []int{math.MinInt, -1, 0, 5} {
			s := sched.New(3)
			s.Until(now)
			s.After(0, node(1))
			s.After(-3, node(2))
			at := max(now, asked)
			wantUntil(t, s, asked, node(1), true, now)
			wantUntil(t, s, asked, node(2), true, now)
			wantUntil(t, s, asked, wheel.Job{}, false, at)
		}
	}
}

// P18.2: the clock is the deadline of each timer that is due, also if a job that
// was returned makes others wait, and jobs for frames wait for no tick.
func TestDueInOrder(t *testing.T) {
	r := rand.New(rand.NewSource(18))
	for range 60 {
		s := sched.New(1000)
		s.Second(node(-1))
		for range 100 {
			s.After(r.Intn(50), node(1))
		}
		due, last, end := 0, 0, 80
		for before := s.List(); ; before = s.List() {
			if _, is := s.Until(end); !is {
				break
			}
			due++
			if s.Now() < last || s.Now() != before[1].Deadline {
				t.Fatalf("%v is due at %d, after %d", before[1], s.Now(), last)
			}
			if last = s.Now(); r.Intn(2) == 0 {
				s.After(r.Intn(9), node(1))
			}
		}
		for _, p := range s.List()[1:] {
			if p.Deadline <= end {
				t.Fatalf("%v was not due", p)
			}
		}
		if due < 100 || s.Now() != end || s.Len() == 0 {
			t.Fatalf("%d were due until %d", due, s.Now())
		}
	}
}

// P18.1: frames and the clock do not depend on each other.
func TestFramesAndClock(t *testing.T) {
	s := sched.New(9)
	s.Second(node(1))
	s.After(2, node(2))
	s.Second(node(3))
	wantUntil(t, s, 1, wheel.Job{}, false, 1)
	if got := s.Frame(); len(got) != 0 || s.Now() != 1 {
		t.Errorf("Frame is %v", got)
	}
	s.Second(node(4))
	wantUntil(t, s, 7, node(2), true, 2)
	if got := s.Frame(); !slices.Equal(got, []wheel.Job{node(1), node(3)}) || s.Now() != 2 {
		t.Errorf("Frame is %v", got)
	}
	if got := s.Frame(); !slices.Equal(got, []wheel.Job{node(4)}) || len(s.Frame()) != 0 || s.Len() != 0 {
		t.Errorf("Frame is %v", got)
	}
}

// pair is a Sched and its model.
type pair struct {
	s *sched.Sched
	m *model
}

// some does something with a pair that is chosen.
func some(t *testing.T, r *rand.Rand, p pair) {
	t.Helper()
	j := wheel.Job{Kind: r.Intn(3), Node: r.Intn(5)}
	number := p.m.now + r.Intn(9) - 2
	edges := []int{math.MinInt, -1, 0, lastTick - 1, lastTick, lastTick + 1, math.MaxInt}
	switch r.Intn(12) {
	case 0, 1, 2:
		second(t, p.s, p.m, j)
	case 3, 4, 5:
		after(t, p.s, p.m, r.Intn(8)-1, j)
	case 6:
		after(t, p.s, p.m, edges[r.Intn(len(edges))], j)
	case 7, 8:
		cancel(t, p.s, p.m, sched.Ref{Frame: r.Intn(2) == 0, Token: r.Intn(max(p.m.frames, p.m.timers)+3) - 1})
	case 9:
		frame(t, p.s, p.m)
	case 10:
		until(t, p.s, p.m, number)
	case 11:
		if r.Intn(9) == 0 {
			number = edges[r.Intn(len(edges))]
		}
		until(t, p.s, p.m, number)
	}
}

// P18.1, P18.2: any calls in any order, on clones too, each of which goes its own
// way.
func TestAgainstModel(t *testing.T) {
	r := rand.New(rand.NewSource(19))
	for range 400 {
		most := r.Intn(20) - 1
		all := []pair{{sched.New(most), newModel(most)}}
		if most < 1 {
			all = append(all, pair{&sched.Sched{}, newModel(0)})
		}
		for range 150 {
			p := all[r.Intn(len(all))]
			some(t, r, p)
			if r.Intn(40) == 0 {
				all = append(all, pair{p.s.Clone(), p.m.clone()})
			}
			for _, p := range all {
				agree(t, p.s, p.m)
			}
		}
	}
}

// Rule 5: a Clone and its original are independent, and all results are new memory.
func TestMemory(t *testing.T) {
	s, m := sched.New(6), newModel(6)
	until(t, s, m, 3)
	second(t, s, m, node(1))
	frame(t, s, m)
	second(t, s, m, node(2))
	after(t, s, m, 4, node(3))
	after(t, s, m, 2, node(4))
	c, k := s.Clone(), m.clone()
	cancel(t, s, m, frameRef(1))
	cancel(t, c, k, timerRef(1))
	until(t, s, m, 5)
	until(t, c, k, 4)
	second(t, s, m, node(5))
	second(t, c, k, node(6))
	after(t, s, m, 1, node(7))
	after(t, c, k, 2, node(8))
	for _, l := range [][]sched.Pending{s.List(), c.List()} {
		clear(l[:cap(l)])
	}
	agree(t, s, m)
	agree(t, c, k)
	for range 3 {
		frame(t, s, m)
		frame(t, c, k)
		until(t, s, m, 9)
		until(t, c, k, 9)
		agree(t, s, m)
		agree(t, c, k)
	}
}

// P1: a zero Sched has the clock at 0, no jobs, and the least room there may be.
func TestZero(t *testing.T) {
	for _, s := range []*sched.Sched{{}, (&sched.Sched{}).Clone()} {
		m := newModel(0)
		agree(t, s, m)
		cancel(t, s, m, sched.Ref{})
		cancel(t, s, m, frameRef(1))
		frame(t, s, m)
		until(t, s, m, 2)
		second(t, s, m, node(1))
		after(t, s, m, 1, node(2))
		c, k := s.Clone(), m.clone()
		for range 2 {
			frame(t, s, m)
		}
		after(t, s, m, 3, node(2))
		second(t, s, m, node(1))
		until(t, s, m, math.MaxInt)
		until(t, s, m, math.MaxInt)
		agree(t, s, m)
		agree(t, c, k)
	}
}
