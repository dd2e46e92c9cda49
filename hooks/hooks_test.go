package hooks_test

import (
	"math"
	"slices"
	"strings"
	"testing"

	"scrim/hooks"
)

// The hooks, and the states, by the numbers that the document gives them.
const (
	beforeEnter, enter, afterEnter, enterCancelled = 1, 2, 3, 4
	beforeLeave, leave, afterLeave, leaveCancelled = 5, 6, 7, 8

	start, enterSoon, entering, in = 0, 1, 2, 3
	leaveSoon, leaving, out        = 4, 5, 6
)

// edges returns numbers around those of hooks and states, and far from them.
func edges() []int {
	l := []int{math.MinInt, math.MinInt32, -1 << 40, math.MaxInt32, 1 << 32, 1<<32 + 1, math.MaxInt}
	for n := -3; n < 20; n++ {
		l = append(l, n)
	}
	return l
}

// P19.1: the numbers of hooks and states.
func TestConstants(t *testing.T) {
	of := []int{hooks.BeforeEnter, hooks.Enter, hooks.AfterEnter, hooks.EnterCancelled, hooks.BeforeLeave, hooks.Leave, hooks.AfterLeave, hooks.LeaveCancelled}
	if !slices.Equal(of, []int{1, 2, 3, 4, 5, 6, 7, 8}) {
		t.Errorf("hooks are %v", of)
	}
	of = []int{hooks.Start, hooks.EnterSoon, hooks.Entering, hooks.In, hooks.LeaveSoon, hooks.Leaving, hooks.Out}
	if !slices.Equal(of, []int{0, 1, 2, 3, 4, 5, 6}) {
		t.Errorf("states are %v", of)
	}
}

// P19.1 and P1: hooks have names, and other numbers have none.
func TestName(t *testing.T) {
	names := strings.Fields("before-enter enter after-enter enter-cancelled before-leave leave after-leave leave-cancelled")
	for _, n := range edges() {
		want := ""
		if n >= 1 && n <= 8 {
			want = names[n-1]
		}
		if got := hooks.Name(n); got != want {
			t.Errorf("Name of %d is %q", n, got)
		}
	}
}

// P19.1 and P1: the transitions of the table, and no others.
func TestNext(t *testing.T) {
	table := map[[2]int]int{
		{start, beforeEnter}: enterSoon, {start, beforeLeave}: leaveSoon,
		{enterSoon, enter}:     entering,
		{entering, afterEnter}: in, {entering, enterCancelled}: in,
		{in, beforeLeave}:     leaveSoon,
		{leaveSoon, leave}:    leaving,
		{leaving, afterLeave}: out, {leaving, leaveCancelled}: out,
		{out, beforeEnter}: enterSoon,
	}
	for _, state := range edges() {
		for _, hook := range edges() {
			want, is := table[[2]int{state, hook}]
			if !is {
				want = -1
			}
			if got := hooks.Next(state, hook); got != want {
				t.Errorf("Next of %d and %d is %d, wanted %d", state, hook, got, want)
			}
		}
	}
}

// P19.1: the chapter's examples, and lists that end, or break off, at each state.
func TestRun(t *testing.T) {
	for _, c := range []struct {
		list []int
		want int
	}{
		{nil, start},
		{[]int{beforeEnter, enter, enterCancelled, beforeLeave}, leaveSoon},
		{[]int{enter}, -1},
		{[]int{beforeEnter}, enterSoon},
		{[]int{beforeEnter, enter}, entering},
		{[]int{beforeEnter, enter, afterEnter}, in},
		{[]int{beforeEnter, enter, enterCancelled}, in},
		{[]int{beforeLeave}, leaveSoon},
		{[]int{beforeLeave, leave}, leaving},
		{[]int{beforeLeave, leave, afterLeave}, out},
		{[]int{beforeLeave, leave, leaveCancelled}, out},
		{[]int{beforeLeave, leave, leaveCancelled, beforeEnter, enter, afterEnter, beforeLeave, leave, afterLeave}, out},
		{[]int{beforeLeave, leave, leaveCancelled, beforeLeave}, -1},
		{[]int{beforeEnter, enter, afterEnter, beforeEnter}, -1},
		{[]int{beforeEnter, beforeEnter}, -1},
		{[]int{beforeEnter, enterCancelled}, -1},
		{[]int{beforeEnter, beforeLeave}, -1},
		{[]int{beforeEnter, enter, beforeLeave}, -1},
		{[]int{beforeEnter, enter, afterEnter, afterEnter}, -1},
		{[]int{beforeLeave, leave, afterLeave, leaveCancelled}, -1},
		{[]int{enter, beforeEnter, enter, afterEnter}, -1},
		{[]int{beforeEnter, 0, enter}, -1},
		{[]int{-1}, -1},
		{[]int{9}, -1},
		{[]int{beforeLeave, leave, math.MaxInt}, -1},
	} {
		if got := hooks.Run(c.list...); got != c.want {
			t.Errorf("Run of %v is %d, wanted %d", c.list, got, c.want)
		}
	}
}

// lists calls do with each list of up to most of the hooks, wrong ones too.
func lists(most int, do func([]int)) {
	var grow func([]int)
	grow = func(l []int) {
		do(l)
		if len(l) == most {
			return
		}
		for hook := 0; hook <= 9; hook++ {
			grow(append(slices.Clone(l), hook))
		}
	}
	grow(nil)
}

// lead is Run, spelt out independently of the program: a kid goes round and round
// through six steps, from the first or the fourth one on.
func lead(list []int) int {
	if len(list) == 0 {
		return start
	}
	round := [][]int{{beforeEnter}, {enter}, {afterEnter, enterCancelled}, {beforeLeave}, {leave}, {afterLeave, leaveCancelled}}
	states := []int{enterSoon, entering, in, leaveSoon, leaving, out}
	for _, from := range []int{0, 3} {
		fits := true
		for i, hook := range list {
			fits = fits && slices.Contains(round[(from+i)%6], hook)
		}
		if fits {
			return states[(from+len(list)-1)%6]
		}
	}
	return -1
}

// P19.1: Run and Check of every short list.
func TestAllShortLists(t *testing.T) {
	lists(5, func(list []int) {
		want := lead(list)
		if got := hooks.Run(list...); got != want {
			t.Errorf("Run of %v is %d, wanted %d", list, got, want)
		}
		var l hooks.Log
		for i, hook := range list {
			l = append(l, hooks.Entry{Group: 3, Node: i, Hook: hook, Key: "k"})
		}
		if got := l.Check(); got != (want >= 0) {
			t.Errorf("Check of %v is %v", list, got)
		}
		if got := l.Of(3, "k"); !slices.Equal(got, list) {
			t.Errorf("Of of %v is %v", list, got)
		}
	})
}

// longer returns the lists of l with any hook more, as far as Run permits them.
func longer(l [][]int) [][]int {
	var all [][]int
	for _, list := range l {
		for hook := 0; hook <= 9; hook++ {
			if next := append(slices.Clone(list), hook); hooks.Run(next...) >= 0 {
				all = append(all, next)
			}
		}
	}
	return all
}

// follows reports whether each hook in l comes right after its before, and is ended
// at most once, by one of ends, before any of others.
func follows(l []int, before, hook int, ends, others []int) bool {
	open := false
	for i, x := range l {
		switch {
		case x == hook:
			if open || i == 0 || l[i-1] != before {
				return false
			}
			open = true
		case slices.Contains(ends, x):
			if !open {
				return false
			}
			open = false
		case slices.Contains(others, x) && open:
			return false
		}
	}
	return true
}

// P19.2: each enter follows its before-enter and is ended at most once, before any
// leave; the same holds for each leave.
func TestOrder(t *testing.T) {
	enters, leaves := []int{afterEnter, enterCancelled}, []int{afterLeave, leaveCancelled}
	all := [][]int{nil}
	for n := 1; n <= 20; n++ {
		all = longer(all)
		// There are two beginnings, and every third hook is one of two.
		if want := 2 << (n / 3); len(all) != want {
			t.Fatalf("%d lists of %d hooks are permitted, wanted %d", len(all), n, want)
		}
		for _, l := range all {
			if !follows(l, beforeEnter, enter, enters, append(leaves, beforeLeave, leave)) || !follows(l, beforeLeave, leave, leaves, append(enters, beforeEnter, enter)) {
				t.Errorf("%v is permitted", l)
			}
		}
	}
}
