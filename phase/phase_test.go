package phase_test

import (
	"math"
	"slices"
	"testing"

	"scrim/dress"
	"scrim/hooks"
	"scrim/phase"
)

// P21.1: the numbers of what is waited for.
func TestConstants(t *testing.T) {
	if of := []int{phase.Nothing, phase.Frames, phase.Timer}; !slices.Equal(of, []int{0, 1, 2}) {
		t.Errorf("jobs are %v", of)
	}
}

// P21.1: a state is its look, and all that a look tells.
func TestEmbeds(t *testing.T) {
	s := phase.State{Look: dress.Look{Kind: leaveTo}, Dur: 3}
	if !s.May() || !s.Ghost() || s.Entering() || !s.Leaving() || !slices.Equal(s.Classes(), s.Look.Classes()) {
		t.Errorf("%v is not like its look", s)
	}
}

// step is a call, and all that must come of it.
type step struct {
	call call
	want phase.Out
}

func of(kind, dur int) phase.State {
	return phase.State{Look: dress.Look{Kind: kind}, Dur: dur}
}

func at(move, dx, dy, dur int) phase.State {
	return phase.State{Look: dress.Look{Move: move, DX: dx, DY: dy}, MoveDur: dur}
}

// follow makes the calls one after the other, each of the state before.
func follow(t *testing.T, s phase.State, steps []step) {
	t.Helper()
	for i, c := range steps {
		got := c.call.of(s)
		if !same(got, c.want) {
			t.Errorf("step %d, %v of %v, is %+v, wanted %+v", i, c.call, s, got, c.want)
		}
		s = got.State
	}
}

// P21.1: the chapter's example.
func TestExample(t *testing.T) {
	follow(t, of(wait, 0), []step{
		{call{name: "Enter", dur: 5}, phase.Out{State: of(enterFrom, 5), Hooks: []int{1, 2}, Job: frames}},
		{call{name: "Leave", dur: 3}, phase.Out{State: of(leaveFrom, 3), Hooks: []int{4, 5, 6}, Job: frames, End: true}},
	})
}

// P21.1: kids that come, stay, leave and come again.
func TestLives(t *testing.T) {
	follow(t, of(wait, 0), []step{
		{call{name: "Enter", dur: 5}, phase.Out{State: of(enterFrom, 5), Hooks: []int{1, 2}, Job: frames}},
		{call{name: "Finish"}, phase.Out{State: of(enterFrom, 5)}},
		{call{name: "Frame"}, phase.Out{State: of(enterTo, 5), Job: timer}},
		{call{name: "Frame"}, phase.Out{State: of(enterTo, 5)}},
		{call{name: "Finish"}, phase.Out{State: of(still, 0), Hooks: []int{3}, End: true}},
		{call{name: "Enter", dur: 5}, phase.Out{State: of(still, 0)}},
		{call{name: "Leave", dur: 2}, phase.Out{State: of(leaveFrom, 2), Hooks: []int{5, 6}, Job: frames}},
		{call{name: "Leave", dur: 9}, phase.Out{State: of(leaveFrom, 2)}},
		{call{name: "Frame"}, phase.Out{State: of(leaveTo, 2), Job: timer}},
		{call{name: "Return"}, phase.Out{State: of(wait, 0), Hooks: []int{8}, End: true}},
		{call{name: "Leave", dur: 9}, phase.Out{State: of(wait, 0)}},
		{call{name: "Cancel"}, phase.Out{State: of(wait, 0)}},
		{call{name: "Enter", dur: 4, once: true}, phase.Out{State: of(enterTo, 4), Hooks: []int{1, 2}, Job: timer}},
		{call{name: "Hold"}, phase.Out{State: of(hold, 0), Hooks: []int{4}, End: true}},
		{call{name: "Return"}, phase.Out{State: of(still, 0)}},
		{call{name: "Hold"}, phase.Out{State: of(hold, 0)}},
		{call{name: "Leave", dur: 1, once: true}, phase.Out{State: of(leaveTo, 1), Hooks: []int{5, 6}, Job: timer}},
		{call{name: "Finish"}, phase.Out{State: of(leaveTo, 1), Hooks: []int{7}, End: true, Gone: true}},
	})
	follow(t, of(wait, 0), []step{{call{name: "Settle"}, phase.Out{State: of(wait, 0), Gone: true}}})
	follow(t, of(hold, 0), []step{
		{call{name: "Cancel"}, phase.Out{State: of(hold, 0)}},
		{call{name: "Settle"}, phase.Out{State: of(hold, 0), Gone: true}},
	})
	follow(t, of(enterFrom, 7), []step{
		{call{name: "Cancel"}, phase.Out{State: of(still, 0), Hooks: []int{4}, End: true}},
		{call{name: "Settle"}, phase.Out{State: of(still, 0)}},
	})
	follow(t, of(leaveFrom, 7), []step{{call{name: "Cancel"}, phase.Out{State: of(leaveFrom, 7), Hooks: []int{7}, End: true, Gone: true}}})
}

// P21.1: a kid that moves, and what ends its move.
func TestMoves(t *testing.T) {
	follow(t, of(still, 0), []step{
		{call{name: "Shift", dur: 4}, phase.Out{}},
		{call{name: "Shift", dx: -3, dur: 4}, phase.Out{State: at(away, -3, 0, 4), MoveJob: frames}},
		{call{name: "Shift", dy: 2, dur: 6}, phase.Out{State: at(away, 0, 2, 6), MoveJob: frames, MoveEnd: true}},
		{call{name: "Shift", dur: 7}, phase.Out{State: at(away, 0, 2, 6)}},
		{call{name: "MoveFinish"}, phase.Out{State: at(away, 0, 2, 6)}},
		{call{name: "MoveFrame"}, phase.Out{State: at(back, 0, 0, 6), MoveJob: timer}},
		{call{name: "MoveFrame"}, phase.Out{State: at(back, 0, 0, 6)}},
		{call{name: "MoveFinish"}, phase.Out{MoveEnd: true}},
		{call{name: "MoveFinish"}, phase.Out{}},
		{call{name: "Shift", dx: 1, dy: 1, dur: 0}, phase.Out{State: at(away, 1, 1, 0), MoveJob: frames}},
		{call{name: "Leave", dur: 3}, phase.Out{State: of(leaveFrom, 3), Hooks: []int{5, 6}, Job: frames, MoveEnd: true}},
		{call{name: "Shift", dx: 1, dur: 4}, phase.Out{State: of(leaveFrom, 3)}},
	})
	for name, want := range map[string]phase.State{"Hold": of(hold, 0), "Cancel": of(still, 0), "Settle": of(still, 0)} {
		follow(t, at(away, 5, 6, 7), []step{{call{name: name}, phase.Out{State: want, MoveEnd: true}}})
		follow(t, at(back, 0, 0, 7), []step{{call{name: name}, phase.Out{State: want, MoveEnd: true}}})
		follow(t, at(9, 8, 0, 7), []step{{call{name: name}, phase.Out{State: want, MoveEnd: true}}})
	}
}

// P21.1 and P1: every call of any state, wrong kinds and moves included.
func TestAgainstModel(t *testing.T) {
	all := calls([]int{0, 1, -7, math.MinInt, math.MaxInt}, []int{0, 5, -2, 1000, math.MinInt, math.MaxInt})
	for _, s := range states() {
		for _, c := range all {
			if got, want := c.of(s), model(s, c); !same(got, want) {
				t.Fatalf("%v of %v is %+v, wanted %+v", c, s, got, want)
			}
		}
	}
}

// life is a state, and where the hooks so far have led the automaton.
type life struct {
	state phase.State
	hooks int
}

// after returns the states that a call leads to, and whether the kid is still one.
func (l life) after(c call) (life, bool) {
	o := c.of(l.state)
	next := life{o.State, l.hooks}
	for _, hook := range o.Hooks {
		next.hooks = hooks.Next(next.hooks, hook)
	}
	return next, !o.Gone
}

// lives goes through all that any calls lead to, beginning with kids that are there
// or wait, without any hooks.
func lives(all []call, pass func(life)) {
	found := []life{{of(still, 0), hooks.Start}, {of(wait, 0), hooks.Start}}
	seen := map[life]bool{found[0]: true, found[1]: true}
	for len(found) > 0 {
		l := found[0]
		found = found[1:]
		pass(l)
		for _, c := range all {
			next, there := l.after(c)
			if there && !seen[next] {
				seen[next] = true
				found = append(found, next)
			}
		}
	}
}

// P21.2 and P5: whatever is called, the hooks are permitted, the last ones of a kid
// that is gone too, and the look is valid.
func TestHooksArePermitted(t *testing.T) {
	all := calls([]int{0, 2, math.MinInt32, math.MaxInt32}, []int{0, 3, 1000})
	kinds := map[int]bool{}
	lives(all, func(l life) {
		kinds[l.state.Kind] = true
		if !l.state.May() {
			t.Errorf("the look of %v is not valid", l.state)
		}
		for _, c := range all {
			if next, _ := l.after(c); next.hooks < 0 {
				t.Errorf("the hooks of %v are not permitted after %d in %v", c, l.hooks, l.state)
			}
		}
	})
	if len(kinds) != 7 {
		t.Errorf("only the kinds %v were reached", kinds)
	}
}

// P21.2 and P5: a kid that is reported to leave is gone exactly when its after-leave
// is, unless all is settled; a ghost that returns is reported as leave-cancelled first.
func TestGhosts(t *testing.T) {
	all := calls([]int{0, 2}, []int{3})
	lives(all, func(l life) {
		for _, c := range all {
			o := c.of(l.state)
			if o.Gone != slices.Contains(o.Hooks, hooks.AfterLeave) && !(c.name == "Settle" && !l.state.Leaving()) {
				t.Errorf("%v of %v: gone is %v, with the hooks %v", c, l.state, o.Gone, o.Hooks)
			}
			if l.state.Leaving() && !o.State.Ghost() && !slices.Equal(o.Hooks, []int{hooks.LeaveCancelled}) {
				t.Errorf("%v of %v has the hooks %v", c, l.state, o.Hooks)
			}
		}
	})
}

// P21.2: of any valid look comes a valid one.
func TestLooksStayValid(t *testing.T) {
	all := calls([]int{0, 1, math.MinInt32, math.MaxInt32}, []int{0, 3, -1})
	for _, s := range states() {
		if !s.May() {
			continue
		}
		for _, c := range all {
			if o := c.of(s); !o.State.May() {
				t.Errorf("%v of %v has the look %v", c, s, o.State.Look)
			}
		}
	}
}

// P21.3: four calls end everything, whatever was called before.
func TestFour(t *testing.T) {
	four := []call{{name: "Frame"}, {name: "Finish"}, {name: "MoveFrame"}, {name: "MoveFinish"}}
	lives(calls([]int{0, -2, 5}, []int{0, 3}), func(l life) {
		began := l.state
		for _, c := range four {
			next, there := l.after(c)
			if !there {
				return
			}
			l = next
		}
		if s := l.state; s.Move != unmoved || s.Kind != still && s.Kind != wait && s.Kind != hold {
			t.Errorf("%v has become %v", began, s)
		}
	})
}

// P21.3: all that waits is waited for no longer: what a call starts is ended by a
// later one, and nothing is ended twice.
func TestEnds(t *testing.T) {
	all := calls([]int{0, 2}, []int{3})
	lives(all, func(l life) {
		for _, c := range all {
			s, o := l.state, c.of(l.state)
			waits, moves := s.Entering() || s.Leaving(), s.Move != unmoved
			if o.End && !waits || o.MoveEnd && !moves {
				t.Errorf("%v of %v ends what was not there: %+v", c, s, o)
			}
			if waits && o.State.Kind != s.Kind && !o.End && o.Job == nothing {
				t.Errorf("%v of %v leaves its transition: %+v", c, s, o)
			}
			if moves && o.State.Move == unmoved && !o.MoveEnd {
				t.Errorf("%v of %v leaves its move: %+v", c, s, o)
			}
		}
	})
}

// Rule 5: no result shares its hooks with another one.
func TestMemory(t *testing.T) {
	for _, s := range states() {
		for _, c := range calls([]int{1}, []int{2}) {
			first := c.of(s)
			list := first.Hooks[:cap(first.Hooks)]
			for i := range list {
				list[i] = 99
			}
			if got := c.of(s); !same(got, model(s, c)) {
				t.Fatalf("%v of %v has become %+v", c, s, got)
			}
		}
	}
}
