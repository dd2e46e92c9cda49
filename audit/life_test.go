package audit_test

import (
	"math/rand"
	"strconv"
	"strings"
	"testing"

	"scrim/api"
	"scrim/audit"
	"scrim/engine"
	"scrim/notation"
	"scrim/view"
)

func choose[T any](r *rand.Rand, l ...T) T { return l[r.Intn(len(l))] }

// parse returns the view that is written so, valid or not.
func parse(t *testing.T, s string) view.Node {
	t.Helper()
	n, at, e := notation.Parse(s)
	if e != api.OK {
		t.Fatalf("%s is no view: %d at %d", s, e, at)
	}
	return n
}

// items are words and Texts that any node may have.
func items(r *rand.Rand) string {
	return choose(r, "", "", " .on", " .b .on", " @a=1", " pad=1", " w=3", " flow=1 gap=1") + choose(r, "", "", " 'hi'", " (b) 'x'")
}

// element is an Element by chance, with kids that may be Groups and Slots; with a key it
// can be a kid of one.
func element(r *rand.Rand, deep int, key string) string {
	s := "(" + choose(r, "p", "p", "li") + key + items(r)
	for range r.Intn(3) {
		if deep > 0 {
			s += choose(r, " "+group(r, deep-1), " "+slot(r, deep-1), "", " 'y'")
		}
	}
	return s + ")"
}

func times(r *rand.Rand) string {
	return choose(r, "", " !enter=1", " !enter=3") + choose(r, "", " !leave=1", " !leave=2") + choose(r, "", " !appear")
}

func group(r *rand.Rand, deep int) string {
	s := "(ul !group" + times(r) + choose(r, "", " !moves", " !moves !move=3", " !moves !move=9")
	for _, n := range r.Perm(4)[:r.Intn(5)] {
		s += " " + element(r, deep, " #"+string(rune('a'+n))+choose(r, "", " h=1", " h=2"))
	}
	return s + ")"
}

func slot(r *rand.Rand, deep int) string {
	s := "(div !slot" + times(r) + choose(r, "", " !out-in", " !in-out")
	if r.Intn(6) > 0 {
		s += " " + element(r, deep, " h=1 #"+choose(r, "a", "b", "c"))
	}
	return s + ")"
}

// written is a view by chance. Most of them are of the same Kind, so that they are patched.
func written(r *rand.Rand, base int) string {
	switch {
	case r.Intn(30) == 0:
		return choose(r, "'hi'", "(p .t-x)", "(ul !group (li))")
	case base == 0:
		return group(r, 2)
	case base == 1:
		return slot(r, 2)
	}
	return element(r, 3, "")
}

// call calls an engine by chance, and tells how.
func call(t *testing.T, r *rand.Rand, e *engine.Engine, base int) string {
	id, s := r.Intn(e.Dom().Next()+2)-1, written(r, base)
	if !e.Mounted() && r.Intn(4) > 0 {
		e.Mount(parse(t, s))
		return "Mount " + s
	}
	switch roll := r.Intn(100); {
	case roll < 35:
		e.Render(parse(t, s))
		return "Render " + s
	case roll < 60:
		e.Frame()
		return "Frame"
	case roll < 78:
		n := choose(r, 0, 1, 1, 1, 2, 3, -1)
		if r.Intn(30) == 0 {
			n = api.MaxClock / 2
		}
		e.Tick(n)
		return "Tick " + strconv.Itoa(n)
	case roll < 88:
		e.End(id)
		return "End " + strconv.Itoa(id)
	case roll < 98:
		e.Cancel(id)
		return "Cancel " + strconv.Itoa(id)
	}
	e.Unmount()
	return "Unmount"
}

// engineBy is an engine that rejects much, or hardly anything.
func engineBy(r *rand.Rand) *engine.Engine {
	if r.Intn(3) == 0 {
		return engine.New(engine.Config{Nodes: 20, Depth: 5, Ghosts: 3, Timers: 5, Width: 9})
	}
	return engine.New(engine.Config{Nodes: 4096, Depth: 20, Ghosts: 4096, Timers: 4096, Width: choose(r, 5, 12, 40)})
}

// lives calls an engine by chance, and calls back after each call.
func lives(t *testing.T, seed int64, calls int, look func(r *rand.Rand, e *engine.Engine, did string)) {
	r := rand.New(rand.NewSource(seed))
	e, base := engineBy(r), r.Intn(3)
	var did []string
	for range calls {
		did = append(did, call(t, r, e, base))
		look(r, e, strings.Join(did, "\n"))
	}
}

// clean is the picture of an engine after some calls by chance.
func clean(t *testing.T, r *rand.Rand) audit.Picture {
	e, base := engineBy(r), r.Intn(3)
	for range 1 + r.Intn(12) {
		call(t, r, e, base)
	}
	return audit.Of(e)
}
