package slot_test

import (
	"math/rand"
	"slices"
	"testing"

	"scrim/dress"
	"scrim/hooks"
	"scrim/phase"
	"scrim/slot"
	"scrim/weave"
)

// actor is a kid with its state.
type actor struct {
	id    int
	key   string
	state phase.State
}

// stage is a slot whose plans are carried out, without any nodes or a clock.
type stage struct {
	t      *testing.T
	actors []*actor
	log    hooks.Log
	made   int
	// only is the one mode that the slot is in, or -1 if it is in different ones.
	only int
}

func (s *stage) kids() []slot.Kid {
	var l []slot.Kid
	for _, a := range s.actors {
		l = append(l, slot.Kid{Key: a.key, Kind: a.state.Kind})
	}
	return l
}

func (s *stage) remove(gone *actor) {
	s.actors = slices.DeleteFunc(s.actors, func(a *actor) bool { return a == gone })
}

// apply gives an actor what came of a call.
func (s *stage) apply(a *actor, o phase.Out) {
	a.state = o.State
	for _, hook := range o.Hooks {
		s.log = append(s.log, hooks.Entry{Node: a.id, Hook: hook, Key: a.key})
		s.inTurn(a, hook)
	}
	if o.Gone {
		s.remove(a)
	}
}

// inTurn looks at whether a transition may begin beside the others.
func (s *stage) inTurn(a *actor, hook int) {
	for _, b := range s.actors {
		if b != a && (hook == hooks.BeforeEnter && s.only == outIn && b.state.Ghost() || hook == hooks.BeforeLeave && s.only == inOut && b.state.Entering()) {
			s.t.Fatalf("in mode %d, %s of %s beside %s, which is %v", s.only, hooks.Name(hook), a.key, b.key, b.state)
		}
	}
}

// render carries out the plan for a key.
func (s *stage) render(key string, mode int) {
	actors, p := slices.Clone(s.actors), slot.Of(s.kids(), key, mode)
	for i, a := range actors {
		switch p.Each[i] {
		case slot.Drops:
			s.remove(a)
		case slot.Holds:
			s.apply(a, a.state.Hold())
		case slot.Leaves:
			s.apply(a, a.state.Leave(2, false))
		}
	}
	if p.Take != -2 {
		s.bring(actors, key, p)
	}
	for _, i := range p.Release {
		s.apply(actors[i], actors[i].state.Leave(2, true))
	}
	s.holds(key)
}

// bring makes the kid current that a plan takes.
func (s *stage) bring(actors []*actor, key string, p slot.Plan) {
	s.made++
	a := &actor{id: s.made, key: key, state: phase.State{Look: dress.Look{Kind: wait}}}
	if p.Take >= 0 {
		a = actors[p.Take]
	}
	if p.Take >= 0 && p.Each[p.Take] == slot.Returns {
		s.apply(a, a.state.Return())
	}
	if p.Start == slot.Enters {
		s.apply(a, a.state.Enter(2, false))
	}
	all := map[int]*actor{a.id: a}
	var before []int
	for _, b := range s.actors {
		all[b.id], before = b, append(before, b.id)
	}
	s.actors = nil
	for _, id := range weave.Merge(before, []int{a.id}) {
		s.actors = append(s.actors, all[id])
	}
}

// goOn carries out what happens by itself.
func (s *stage) goOn() {
	actors := slices.Clone(s.actors)
	now := currentOf(s.kids())
	held, enters := slot.Next(s.kids())
	for _, i := range held {
		s.apply(actors[i], actors[i].state.Leave(2, true))
	}
	if enters {
		s.apply(actors[now], actors[now].state.Enter(2, true))
	}
}

// holds looks at whether only the kid with the key is current, and at whether
// anyone waits for nobody.
func (s *stage) holds(key string) {
	s.t.Helper()
	all := s.kids()
	now, held, ghosts := currentOf(all), 0, 0
	for i, k := range all {
		switch {
		case k.Kind == hold:
			held++
		case ghost(k):
			ghosts++
		case i != now || k.Key != key:
			s.t.Fatalf("for %q there are %v", key, all)
		}
	}
	if (now < 0) != (key == "") {
		s.t.Fatalf("for %q there are %v", key, all)
	}
	if held > 0 && (now < 0 || !entering(all[now])) {
		s.t.Fatalf("one is held for nobody: %v", all)
	}
	if now >= 0 && all[now].Kind == wait && (held > 0 || ghosts == 0) {
		s.t.Fatalf("one waits for nobody: %v", all)
	}
	if !s.log.Check() {
		s.t.Fatalf("the hooks are %s", s.log.Text())
	}
}

// step lets something happen to one of the kids from outside.
func (s *stage) step(r *rand.Rand) {
	if len(s.actors) == 0 {
		return
	}
	a := choose(r, s.actors...)
	switch r.Intn(5) {
	case 0, 1:
		s.apply(a, a.state.Frame())
		return
	case 2, 3:
		s.apply(a, a.state.Finish())
	case 4:
		s.apply(a, a.state.Cancel())
	}
	s.goOn()
}

// finish lets all transitions end that are under way.
func (s *stage) finish() {
	for _, a := range slices.Clone(s.actors) {
		s.apply(a, a.state.Frame())
	}
	for _, a := range slices.Clone(s.actors) {
		s.apply(a, a.state.Finish())
		s.goOn()
	}
}

// P26.2 and P26.3: a slot whose plans are carried out. In the mode OutIn no kid begins
// to enter beside a ghost, and in the mode InOut none begins to leave beside one that
// enters; and when all transitions have ended twice, nobody waits, is held, or leaves.
func TestLife(t *testing.T) {
	r := rand.New(rand.NewSource(265))
	for range 6000 {
		s := &stage{t: t, only: r.Intn(4) - 1}
		key := ""
		for range 1 + r.Intn(25) {
			if r.Intn(3) > 0 {
				s.step(r)
			} else {
				mode := s.only
				if mode < 0 {
					mode = r.Intn(3)
				}
				key = choose(r, "a", "b", "c", "d", "")
				s.render(key, mode)
			}
			s.holds(key)
		}
		s.finish()
		s.finish()
		for _, a := range s.actors {
			if a.state.Kind != still {
				t.Fatalf("for %q, %s is %v in the end", key, a.key, a.state)
			}
		}
		s.holds(key)
	}
}
