package phase_test

import (
	"math"
	"slices"
	"strconv"
	"strings"

	"scrim/dress"
	"scrim/phase"
)

// The kinds, moves and jobs, by the numbers that the document gives them.
const (
	still, wait, enterFrom, enterTo, hold, leaveFrom, leaveTo = 0, 1, 2, 3, 4, 5, 6

	unmoved, away, back = 0, 1, 2

	nothing, frames, timer = 0, 1, 2
)

// call is one method with what it is passed.
type call struct {
	name        string
	once        bool
	dx, dy, dur int
}

func (c call) of(s phase.State) phase.Out {
	switch c.name {
	case "Enter":
		return s.Enter(c.dur, c.once)
	case "Leave":
		return s.Leave(c.dur, c.once)
	case "Hold":
		return s.Hold()
	case "Return":
		return s.Return()
	case "Frame":
		return s.Frame()
	case "Finish":
		return s.Finish()
	case "Cancel":
		return s.Cancel()
	case "Settle":
		return s.Settle()
	case "Shift":
		return s.Shift(c.dx, c.dy, c.dur)
	case "MoveFrame":
		return s.MoveFrame()
	}
	return s.MoveFinish()
}

// calls returns every method, with each pair of the offsets and each duration where
// it is passed some.
func calls(offsets, durs []int) []call {
	var all []call
	for _, name := range strings.Fields("Hold Return Frame Finish Cancel Settle MoveFrame MoveFinish") {
		all = append(all, call{name: name})
	}
	for _, dur := range durs {
		for _, name := range []string{"Enter", "Leave"} {
			all = append(all, call{name: name, dur: dur}, call{name: name, dur: dur, once: true})
		}
		for _, dx := range offsets {
			for _, dy := range offsets {
				all = append(all, call{name: "Shift", dx: dx, dy: dy, dur: dur})
			}
		}
	}
	return all
}

// rules is the chapter as a table. Each line has: the call ("!" is once); the kind;
// the kind afterwards; the job; whether Dur becomes what was passed (d), becomes 0
// (0), or stays (=); whether the move ends (m); which of End and Gone are true; and
// the hooks. A star stands for every kind without a line of its own.
const rules = `
Enter    1  2  1  d  m  -   12
Enter!   1  3  2  d  m  -   12
Leave    0  5  1  d  m  -   56
Leave    2  5  1  d  m  E   456
Leave    3  5  1  d  m  E   456
Leave    4  5  1  d  m  -   56
Leave!   0  6  2  d  m  -   56
Leave!   2  6  2  d  m  E   456
Leave!   3  6  2  d  m  E   456
Leave!   4  6  2  d  m  -   56
Hold     0  4  0  0  m  -   -
Hold     2  4  0  0  m  E   4
Hold     3  4  0  0  m  E   4
Return   4  0  0  =  -  -   -
Return   5  1  0  0  -  E   8
Return   6  1  0  0  -  E   8
Frame    2  3  2  =  -  -   -
Frame    5  6  2  =  -  -   -
Finish   3  0  0  0  -  E   3
Finish   6  6  0  =  -  EG  7
Cancel   2  0  0  0  m  E   4
Cancel   3  0  0  0  m  E   4
Cancel   5  5  0  =  m  EG  7
Cancel   6  6  0  =  m  EG  7
Cancel   *  *  0  =  m  -   -
Settle   1  1  0  =  m  G   -
Settle   2  0  0  0  m  E   4
Settle   3  0  0  0  m  E   4
Settle   4  4  0  =  m  G   -
Settle   5  5  0  =  m  EG  7
Settle   6  6  0  =  m  EG  7
Settle   *  *  0  =  m  -   -
`

// rule returns the words of the line for a call of a kind, without these two; none
// if nothing happens.
func rule(c call, kind int) []string {
	name := c.name
	if c.once {
		name += "!"
	}
	for _, of := range []string{strconv.Itoa(kind), "*"} {
		for line := range strings.Lines(rules) {
			if words := strings.Fields(line); len(words) > 0 && words[0] == name && words[1] == of {
				return words[2:]
			}
		}
	}
	return nil
}

func digit(s string) int { return int(s[0] - '0') }

// model is what comes of a call, spelt out independently of the program.
func model(s phase.State, c call) phase.Out {
	if c.name == "Shift" || c.name == "MoveFrame" || c.name == "MoveFinish" {
		return moved(s, c)
	}
	o := phase.Out{State: s}
	words := rule(c, s.Kind)
	if words == nil {
		return o
	}
	if words[0] != "*" {
		o.State.Kind = digit(words[0])
	}
	o.Job = digit(words[1])
	switch words[2] {
	case "d":
		o.State.Dur = c.dur
	case "0":
		o.State.Dur = 0
	}
	if words[3] == "m" && s.Move != unmoved {
		o.State.Move, o.State.DX, o.State.DY, o.State.MoveDur, o.MoveEnd = 0, 0, 0, 0, true
	}
	o.End, o.Gone = strings.Contains(words[4], "E"), strings.Contains(words[4], "G")
	for i := range words[5] {
		if words[5] != "-" {
			o.Hooks = append(o.Hooks, digit(words[5][i:]))
		}
	}
	return o
}

// moved is model for the calls of moves.
func moved(s phase.State, c call) phase.Out {
	same := phase.Out{State: s}
	switch {
	case c.name == "Shift" && s.Kind == still && c.dx|c.dy != 0:
		look := dress.Look{Move: away, DX: c.dx, DY: c.dy}
		return phase.Out{State: phase.State{Look: look, Dur: s.Dur, MoveDur: c.dur}, MoveJob: frames, MoveEnd: s.Move != unmoved}
	case c.name == "MoveFrame" && s.Move == away:
		same.State.Move, same.State.DX, same.State.DY, same.MoveJob = back, 0, 0, timer
	case c.name == "MoveFinish" && s.Move == back:
		look := dress.Look{Kind: s.Kind}
		return phase.Out{State: phase.State{Look: look, Dur: s.Dur}, MoveEnd: true}
	}
	return same
}

// same reports whether all of two results is the same.
func same(a, b phase.Out) bool {
	return a.State == b.State && slices.Equal(a.Hooks, b.Hooks) && a.Job == b.Job && a.MoveJob == b.MoveJob &&
		a.End == b.End && a.MoveEnd == b.MoveEnd && a.Gone == b.Gone
}

// states returns states of every kind and move, wrong ones too, with offsets and
// durations also where there is no transition or move.
func states() []phase.State {
	var all []phase.State
	for _, kind := range []int{still, wait, enterFrom, enterTo, hold, leaveFrom, leaveTo, -1, 7, 8, math.MinInt, math.MaxInt} {
		for _, move := range []int{unmoved, away, back, -1, 3, math.MinInt, math.MaxInt} {
			for _, dx := range []int{0, -3, math.MaxInt} {
				for _, dy := range []int{0, 4, math.MinInt} {
					look := dress.Look{Kind: kind, Move: move, DX: dx, DY: dy}
					all = append(all, phase.State{Look: look}, phase.State{Look: look, Dur: 6}, phase.State{Look: look, Dur: -1, MoveDur: 8})
				}
			}
		}
	}
	return all
}
