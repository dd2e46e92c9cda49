package audit_test

import (
	"fmt"
	"math"
	"math/rand"
	"slices"
	"testing"

	"scrim/audit"
	"scrim/dress"
	"scrim/engine"
	"scrim/hooks"
	"scrim/props"
	"scrim/still"
	"scrim/view"
	"scrim/wheel"
)

// P29.1 and P29.2: for any engine, Of tells what it can be asked for, and there is no
// finding.
func TestClean(t *testing.T) {
	looks := map[[2]int]int{}
	for seed := range int64(500) {
		lives(t, seed, 40, func(_ *rand.Rand, e *engine.Engine, did string) {
			p := audit.Of(e)
			if l := p.Check(); len(l) > 0 {
				t.Fatalf("after %s\nthere is %v in %s with %v and %v", did, l, p.Tree.Show(true), p.Kids, p.Pending)
			}
			tree, _ := still.Read(e.Dom(), 0)
			var kids []audit.Kid
			for _, id := range e.Dom().Order() {
				if look, is := e.Look(id); is {
					kids = append(kids, audit.Kid{ID: id, Look: look})
					looks[[2]int{look.Kind, look.Move}]++
				}
			}
			if p.Tree.Show(true) != tree.Show(true) || !view.Same(p.View, e.View()) || p.Mounted != e.Mounted() || p.Now != e.Now() {
				t.Fatalf("after %s\nit shows %+v", did, p)
			}
			if !slices.Equal(p.Kids, kids) || len(kids) != e.Dom().Count() || !slices.Equal(p.Pending, e.Pending()) || !slices.Equal(p.Hooks, e.Hooks()) {
				t.Fatalf("after %s\nthere are %v, %v and %v", did, p.Kids, p.Pending, p.Hooks)
			}
		})
	}
	for kind := range 7 {
		if looks[[2]int{kind, dress.Unmoved}] < 500 {
			t.Errorf("the kind %d came %d times only", kind, looks[[2]int{kind, dress.Unmoved}])
		}
	}
	if looks[[2]int{0, dress.Away}] < 300 || looks[[2]int{0, dress.Back}] < 100 {
		t.Errorf("the looks came %v times", looks)
	}
}

// P29.1: pictures of any kind against conditions that are spelt out.
func TestAgainstModel(t *testing.T) {
	r, found := rand.New(rand.NewSource(291)), map[int]int{}
	holds := func(p audit.Picture) {
		got, want := p.Check(), modelCheck(p)
		if !slices.Equal(got, want) {
			t.Fatalf("%v is found, wanted %v, in %s with %+v", got, want, p.Tree.Show(true), p)
		}
		for _, f := range got {
			found[f.Kind]++
		}
		if len(got) == 0 {
			found[0]++
		}
	}
	for range 4000 {
		p := clean(t, r)
		for range 4 {
			holds(p)
			spoil(r, &p)
		}
	}
	for range 30000 {
		holds(wild(r))
	}
	for kind := range 7 {
		if found[kind] < 1000 {
			t.Errorf("the kind %d was found %d times only", kind, found[kind])
		}
	}
}

// P29.3: with a single mark more or less below the root there is a finding.
func TestMarks(t *testing.T) {
	r, more, less := rand.New(rand.NewSource(293)), 0, 0
	for range 500 {
		p := clean(t, r)
		for _, n := range places(&p.Tree)[1:] {
			was, id := *n, n.ID
			look := func(what string, there bool) {
				if len(p.Check()) == 0 {
					t.Fatalf("nothing is found after %s of %d has changed: %s with %v", what, id, p.Tree.Show(true), p.Kids)
				}
				if *n = was; there {
					less++
				} else {
					more++
				}
			}
			for _, c := range reserved {
				at := slices.Index(n.Classes, c)
				n.Classes = slices.Clone(n.Classes)
				if at >= 0 {
					n.Classes = slices.Delete(n.Classes, at, at+1)
				} else {
					n.Classes = slices.Insert(n.Classes, r.Intn(len(n.Classes)+1), c)
				}
				look(c, at >= 0)
			}
			_, there := n.Attrs.Get("t-ghost")
			if n.Attrs = n.Attrs.Set("t-ghost", ""); there {
				n.Attrs = n.Attrs.Drop("t-ghost")
			}
			look("t-ghost", there)
			for _, name := range []string{"t-dx", "t-dy"} {
				_, there := n.Styles.Get(name)
				if n.Styles = n.Styles.Set(name, r.Intn(3)-1); there {
					n.Styles = n.Styles.Drop(name)
				}
				look(name, there)
			}
		}
		if l := p.Check(); len(l) > 0 {
			t.Fatalf("%v is found in %s", l, p.Tree.Show(true))
		}
	}
	if more < 20000 || less < 1000 {
		t.Errorf("%d marks were added, and %d removed", more, less)
	}
}

// roomy is a picture in which each list has some capacity to spare.
func roomy(p audit.Picture) audit.Picture {
	p.Kids, p.Pending, p.Hooks = append(p.Kids, audit.Kid{ID: 1})[:len(p.Kids)], append(p.Pending, p.Pending...)[:len(p.Pending)], append(p.Hooks, p.Hooks...)[:len(p.Hooks)]
	for _, n := range places(&p.Tree) {
		n.Classes = append(n.Classes, "spare")[:len(n.Classes)]
		n.Attrs = append(n.Attrs, props.Pair[string]{Name: "spare"})[:len(n.Attrs)]
		n.Styles = append(n.Styles, props.Pair[int]{Name: "spare"})[:len(n.Styles)]
		n.Kids = append(n.Kids, still.Tree{Tag: "spare"})[:len(n.Kids)]
	}
	return p
}

// whole is everything of a picture as a text, the spare capacity of its lists included.
func whole(p audit.Picture) string {
	s := fmt.Sprint(p, p.Kids[:cap(p.Kids)], p.Pending[:cap(p.Pending)], p.Hooks[:cap(p.Hooks)])
	for _, n := range places(&p.Tree) {
		s += fmt.Sprint(n.Classes[:cap(n.Classes)], n.Attrs[:cap(n.Attrs)], n.Styles[:cap(n.Styles)], n.Kids[:cap(n.Kids)])
	}
	return s
}

// Rule 5: Check changes nothing of a picture, and whoever changes a picture changes
// neither the engine nor another picture.
func TestMemory(t *testing.T) {
	r := rand.New(rand.NewSource(295))
	for seed := range int64(60) {
		lives(t, seed, 10, func(_ *rand.Rand, e *engine.Engine, did string) {
			p, q := roomy(audit.Of(e)), audit.Of(e)
			before, other := whole(p), whole(q)
			if p.Check(); whole(p) != before {
				t.Fatalf("after %s\nthere was %s, and Check has left %s", did, before, whole(p))
			}
			p = audit.Of(e)
			ruin(r, &p)
			if whole(q) != other || whole(audit.Of(e)) != other {
				t.Fatalf("after %s\nthere was %s, and is %s", did, other, whole(q))
			}
		})
	}
}

// ruin changes everything that a picture has.
func ruin(r *rand.Rand, p *audit.Picture) {
	for _, n := range places(&p.Tree) {
		n.Tag, n.ID, n.Text, n.Kind = "zz", 99, "zz", 9
		ruinOwn(n.Classes, n.Attrs, n.Styles)
	}
	for i := range p.Kids {
		p.Kids[i].ID = 99
	}
	for i := range p.Pending {
		p.Pending[i] = someJob(r)
	}
	for i := range p.Hooks {
		p.Hooks[i] = hooks.Entry{Key: "zz"}
	}
	ruinView(&p.View)
}

func ruinView(n *view.Node) {
	ruinOwn(n.Classes, n.Attrs, n.Styles)
	for i := range n.Kids {
		ruinView(&n.Kids[i])
		n.Kids[i].Tag = "zz"
	}
}

// ruinOwn changes what a node has.
func ruinOwn(classes []string, attrs props.Map[string], styles props.Map[int]) {
	for i := range classes {
		classes[i] = "zz"
	}
	for i := range attrs {
		attrs[i].Value = "zz"
	}
	for i := range styles {
		styles[i].Value = 99
	}
}

// P1: numbers of any size, and many or deep nodes.
func TestLarge(t *testing.T) {
	for _, n := range []int{math.MinInt, math.MaxInt, -1} {
		k := audit.Kid{ID: n, Look: dress.Look{Kind: n, Move: n, DX: n, DY: n}}
		p := audit.Picture{Tree: still.Tree{ID: n, Kind: n}, View: view.Node{Kind: n}, Now: n, Kids: []audit.Kid{k}, Pending: wild(rand.New(rand.NewSource(1))).Pending, Hooks: hooks.Log{{Group: n, Node: n, Hook: n}}}
		p.Pending = append(p.Pending, timer(n, n, n, n), frame(n, n, n, n))
		if got, want := p.Check(), modelCheck(p); !slices.Equal(got, want) || len(got) == 0 {
			t.Errorf("with %d: %v, wanted %v", n, got, want)
		}
	}
	deep := still.Tree{Kind: 2}
	for id := range 1 << 16 {
		deep = still.Tree{ID: id + 1, Kind: 2, Kids: []still.Tree{deep}}
	}
	finds(t, "deep", audit.Picture{Tree: deep, Kids: []audit.Kid{{ID: 1}, {ID: -1}}}, 1, 0, 2, -1)
	wide := audit.Picture{Tree: still.Tree{ID: -1, Kind: 2}}
	for id := range 1 << 17 {
		wide.Tree.Kids = append(wide.Tree.Kids, still.Tree{ID: id, Kind: 2, Attrs: props.Map[string]{{Name: "t-ghost"}}, Classes: []string{"t-leave-from", "t-leave-active"}})
		wide.Kids = append(wide.Kids, audit.Kid{ID: id, Look: dress.Look{Kind: dress.LeaveFrom}})
		wide.Pending = append(wide.Pending, frame(id, 1, id, 1))
	}
	finds(t, "wide", wide)
	for i := range wide.Pending {
		wide.Pending[i].Job = wheel.Job{Kind: 2}
	}
	if l := wide.Check(); len(l) != 1<<17 {
		t.Errorf("wide, with all jobs for one: %d findings", len(l))
	}
}
