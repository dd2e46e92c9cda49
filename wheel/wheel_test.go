package wheel_test

import (
	"math"
	"math/rand"
	"slices"
	"testing"

	"scrim/api"
	"scrim/wheel"
)

// tokens of timers, in their order.
func tokens(l []wheel.Timer) []int {
	var all []int
	for _, t := range l {
		all = append(all, t.Token)
	}
	return all
}

// filled is a Wheel with these deadlines, of which each job is another one.
func filled(t *testing.T, most int, deadlines ...int) *wheel.Wheel {
	t.Helper()
	w := wheel.New(most)
	for i, d := range deadlines {
		if token, e := w.Add(d, wheel.Job{Kind: i % 2, Node: 7 * i}); token != i+1 || e != api.OK {
			t.Fatalf("Add of %d is %d %d", d, token, e)
		}
	}
	return w
}

// P16.1: the document's example, with everything else that is returned.
func TestExample(t *testing.T) {
	w := filled(t, 9, 5, 3, 5)
	if got := tokens(w.List()); !slices.Equal(got, []int{2, 1, 3}) {
		t.Errorf("List is %v", got)
	}
	if !w.Cancel(1) || w.Len() != 2 {
		t.Error("Cancel")
	}
	for _, want := range []wheel.Timer{{Token: 2, Deadline: 3, Job: wheel.Job{Kind: 1, Node: 7}}, {Token: 3, Deadline: 5, Job: wheel.Job{Node: 14}}} {
		if got, is := w.Due(9); got != want || !is {
			t.Errorf("Due is %v %v, wanted %v", got, is, want)
		}
	}
	if got, is := w.Due(9); is || got != (wheel.Timer{}) || w.Len() != 0 || len(w.List()) != 0 {
		t.Errorf("Due is %v %v at the end", got, is)
	}
}

// P16.1: a timer is due at its deadline, not before it.
func TestDueAtDeadline(t *testing.T) {
	w := filled(t, 9, 4, 0)
	for _, c := range []struct {
		now, token int
	}{{math.MinInt, 0}, {-1, 0}, {0, 2}, {3, 0}, {4, 1}, {4, 0}, {math.MaxInt, 0}} {
		got, is := w.Due(c.now)
		if got.Token != c.token || is != (c.token > 0) || !is && got != (wheel.Timer{}) {
			t.Errorf("Due at %d is %v %v, wanted %d", c.now, got, is, c.token)
		}
	}
}

// P16.1: deadlines are limited to 0 to the last tick, and order the timers as such.
func TestDeadlines(t *testing.T) {
	for _, c := range []struct{ given, counts int }{
		{math.MinInt, 0}, {math.MinInt32 - 1, 0}, {-1, 0}, {0, 0}, {1, 1}, {math.MaxInt32 + 1, math.MaxInt32 + 1},
		{lastTick - 1, lastTick - 1}, {lastTick, lastTick}, {lastTick + 1, lastTick}, {math.MaxInt, lastTick},
	} {
		w := filled(t, 1, c.given)
		if l := w.List(); l[0].Deadline != c.counts {
			t.Errorf("%d counts as %d", c.given, l[0].Deadline)
		}
		if got, is := w.Due(c.counts - 1); is {
			t.Errorf("%d is due too early: %v", c.given, got)
		}
		if got, is := w.Due(c.counts); !is || got.Deadline != c.counts {
			t.Errorf("%d is due: %v %v", c.given, got, is)
		}
	}
	w := filled(t, 9, math.MaxInt, lastTick, lastTick+1, 0, math.MinInt, -1)
	if got := tokens(w.List()); !slices.Equal(got, []int{4, 5, 6, 1, 2, 3}) {
		t.Errorf("List is %v", got)
	}
}

// P16.1: as many timers as permitted. One that was rejected has used up no token,
// and whatever makes room does so for one more.
func TestMost(t *testing.T) {
	for _, c := range []struct{ most, room int }{
		{math.MinInt, 1}, {-1, 1}, {0, 1}, {1, 1}, {2, 2}, {65535, 65535}, {65536, 65536}, {65537, 65536}, {math.MaxInt, 65536},
	} {
		w := wheel.New(c.most)
		for i := range c.room {
			if token, e := w.Add(c.room-i, wheel.Job{Node: i}); token != i+1 || e != api.OK {
				t.Fatalf("%d of %d: %d %d", i, c.most, token, e)
			}
		}
		before := w.List()
		for range 2 {
			if token, e := w.Add(0, wheel.Job{}); token != 0 || e != api.ErrTimers || w.Len() != c.room {
				t.Errorf("one more than %d: %d %d", c.most, token, e)
			}
		}
		if !slices.Equal(w.List(), before) {
			t.Errorf("one more than %d has changed something", c.most)
		}
		if got, is := w.Due(1); !is || got.Token != c.room {
			t.Errorf("Due of %d is %v %v", c.most, got, is)
		}
		if token, e := w.Add(5, wheel.Job{}); token != c.room+1 || e != api.OK {
			t.Errorf("after Due of %d: %d %d", c.most, token, e)
		}
		if !w.Cancel(c.room+1) || w.Cancel(c.room+1) || w.Cancel(c.room+2) {
			t.Errorf("Cancel of %d", c.most)
		}
		if token, e := w.Add(5, wheel.Job{}); token != c.room+2 || e != api.OK || w.Len() != c.room {
			t.Errorf("after Cancel of %d: %d %d", c.most, token, e)
		}
	}
}

// P16.1: tokens of which there is no timer, or no longer one.
func TestCancelNothing(t *testing.T) {
	w := filled(t, 9, 5, 3, 5)
	w.Due(3)
	w.Cancel(3)
	for _, token := range []int{math.MinInt, -1, 0, 2, 3, 4, math.MaxInt} {
		if w.Cancel(token) {
			t.Errorf("%d was cancelled", token)
		}
	}
	if got := tokens(w.List()); !slices.Equal(got, []int{1}) {
		t.Errorf("List is %v", got)
	}
}

// P16.1: every order in which a few timers can be added, and cancelled.
func TestAllShortOrders(t *testing.T) {
	var grow func(deadlines []int)
	grow = func(deadlines []int) {
		for cancelled := range len(deadlines) + 1 {
			for other := range cancelled + 1 {
				w, m := wheel.New(9), newModel(9)
				for i, d := range deadlines {
					add(t, w, m, d, wheel.Job{Node: i})
				}
				cancel(t, w, m, cancelled)
				cancel(t, w, m, other)
				agree(t, w, m)
				for _, now := range []int{0, 1, 1, 1, 9, 9, 9, 9, 9} {
					due(t, w, m, now)
				}
			}
		}
		if len(deadlines) < 5 {
			for d := range 3 {
				grow(append(slices.Clone(deadlines), d))
			}
		}
	}
	grow(nil)
}

// pair is a Wheel and its model.
type pair struct {
	w *wheel.Wheel
	m *model
}

// some does something with a pair that is chosen.
func some(t *testing.T, r *rand.Rand, p pair) {
	t.Helper()
	edges := []int{math.MinInt, -1, 0, lastTick - 1, lastTick, lastTick + 1, math.MaxInt}
	number := r.Intn(12) - 1
	if r.Intn(9) == 0 {
		number = edges[r.Intn(len(edges))]
	}
	switch r.Intn(7) {
	case 0, 1, 2, 3:
		add(t, p.w, p.m, number, wheel.Job{Kind: r.Intn(3), Node: r.Intn(5)})
	case 4:
		cancel(t, p.w, p.m, r.Intn(len(p.m.added)+3)-1)
	case 5:
		due(t, p.w, p.m, number)
	case 6:
		due(t, p.w, p.m, 5)
	}
}

// P16.1: any calls in any order, on clones too, each of which goes its own way.
func TestAgainstModel(t *testing.T) {
	r := rand.New(rand.NewSource(16))
	for range 400 {
		most := r.Intn(40) - 1
		all := []pair{{wheel.New(most), newModel(most)}}
		if most < 1 {
			all = append(all, pair{&wheel.Wheel{}, newModel(0)})
		}
		for range 150 {
			p := all[r.Intn(len(all))]
			some(t, r, p)
			if r.Intn(40) == 0 {
				all = append(all, pair{p.w.Clone(), p.m.clone()})
			}
			for _, p := range all {
				agree(t, p.w, p.m)
			}
		}
	}
}

// P16.2: timers are due in the order of their deadlines and then of their tokens,
// each once, at the first time that is late enough, and none that was cancelled.
func TestInOrder(t *testing.T) {
	r := rand.New(rand.NewSource(17))
	for range 60 {
		const many = 1500
		w := wheel.New(many)
		var want []wheel.Timer
		for i := range many {
			j := wheel.Job{Kind: i, Node: -i}
			d := r.Intn(200)
			token, _ := w.Add(d, j)
			want = append(want, wheel.Timer{Token: token, Deadline: d, Job: j})
		}
		want = slices.DeleteFunc(want, func(x wheel.Timer) bool { return r.Intn(3) == 0 && w.Cancel(x.Token) })
		slices.SortStableFunc(want, func(a, b wheel.Timer) int { return a.Deadline - b.Deadline })
		var got []wheel.Timer
		for now := range 200 {
			for x, is := w.Due(now); is; x, is = w.Due(now) {
				if x.Deadline != now {
					t.Fatalf("%v is due at %d", x, now)
				}
				got = append(got, x)
			}
		}
		if !slices.Equal(got, want) || w.Len() != 0 {
			t.Fatalf("%d were due, wanted %d; %d are left", len(got), len(want), w.Len())
		}
	}
}

// Rule 5: a Clone and its original are independent, and List is new memory.
func TestMemory(t *testing.T) {
	w := filled(t, 4, 5, 3, 5)
	c := w.Clone()
	w.Cancel(2)
	w.Add(1, wheel.Job{Node: 1})
	c.Add(2, wheel.Job{Node: 2})
	c.Cancel(3)
	l := w.List()
	clear(l[:cap(l)])
	l = c.List()
	clear(l[:cap(l)])
	one := []wheel.Timer{{Token: 4, Deadline: 1, Job: wheel.Job{Node: 1}}, {Token: 1, Deadline: 5}, {Token: 3, Deadline: 5, Job: wheel.Job{Node: 14}}}
	other := []wheel.Timer{{Token: 4, Deadline: 2, Job: wheel.Job{Node: 2}}, {Token: 2, Deadline: 3, Job: wheel.Job{Kind: 1, Node: 7}}, {Token: 1, Deadline: 5}}
	if !slices.Equal(w.List(), one) || !slices.Equal(c.List(), other) {
		t.Errorf("the original has %v, and the clone %v", w.List(), c.List())
	}
	for range 2 {
		w.Add(9, wheel.Job{})
		c.Add(9, wheel.Job{})
	}
	if w.Len() != 4 || c.Len() != 4 {
		t.Errorf("there is room for %d and for %d", w.Len(), c.Len())
	}
}

// P1: a zero Wheel has no timers, and the least room there may be.
func TestZero(t *testing.T) {
	for _, w := range []*wheel.Wheel{{}, (&wheel.Wheel{}).Clone()} {
		m := newModel(0)
		agree(t, w, m)
		cancel(t, w, m, 0)
		cancel(t, w, m, 1)
		due(t, w, m, math.MaxInt)
		add(t, w, m, 3, wheel.Job{Node: 4})
		c, k := w.Clone(), m.clone()
		add(t, w, m, 3, wheel.Job{})
		cancel(t, w, m, 1)
		add(t, w, m, 2, wheel.Job{Kind: 1})
		agree(t, w, m)
		due(t, w, m, 2)
		add(t, c, k, 1, wheel.Job{})
		due(t, c, k, 3)
		agree(t, w, m)
		agree(t, c, k)
	}
}
