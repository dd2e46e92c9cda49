package dress_test

import (
	"math"
	"math/rand"
	"slices"
	"strconv"
	"strings"
	"testing"

	"scrim/dress"
	"scrim/props"
)

// P20.1: the numbers of kinds and moves.
func TestConstants(t *testing.T) {
	of := []int{dress.Still, dress.Wait, dress.EnterFrom, dress.EnterTo, dress.Hold, dress.LeaveFrom, dress.LeaveTo}
	if !slices.Equal(of, []int{0, 1, 2, 3, 4, 5, 6}) {
		t.Errorf("kinds are %v", of)
	}
	of = []int{dress.Unmoved, dress.Away, dress.Back}
	if !slices.Equal(of, []int{0, 1, 2}) {
		t.Errorf("moves are %v", of)
	}
}

// P20.1: looks that are valid, and some that just are not.
func TestMay(t *testing.T) {
	for _, c := range []struct {
		look dress.Look
		want bool
	}{
		{dress.Look{}, true},
		{dress.Look{Kind: leaveTo}, true},
		{dress.Look{Kind: leaveTo + 1}, false},
		{dress.Look{Kind: -1}, false},
		{dress.Look{Move: away}, true},
		{dress.Look{Move: away, DX: -2}, true},
		{dress.Look{Move: away, DX: math.MinInt32, DY: math.MaxInt32}, true},
		{dress.Look{Move: away, DX: math.MinInt32 - 1}, false},
		{dress.Look{Move: away, DX: math.MaxInt32 + 1}, false},
		{dress.Look{Move: away, DY: math.MinInt32 - 1}, false},
		{dress.Look{Move: away, DY: math.MaxInt32 + 1}, false},
		{dress.Look{Move: back}, true},
		{dress.Look{Move: back, DX: 1}, false},
		{dress.Look{Move: back, DY: 1}, false},
		{dress.Look{Move: back + 1}, false},
		{dress.Look{Move: -1}, false},
		{dress.Look{DX: 1}, false},
		{dress.Look{DY: -1}, false},
		{dress.Look{Kind: enterTo, Move: back}, false},
		{dress.Look{Kind: hold, Move: away}, false},
		{dress.Look{Kind: wait, DY: 3}, false},
	} {
		if got := c.look.May(); got != c.want {
			t.Errorf("May of %v is %v", c.look, got)
		}
	}
}

// P20.1 and P1: whatever is asked of any look.
func TestLooks(t *testing.T) {
	for _, l := range looks() {
		if got := l.May(); got != valid(l) {
			t.Errorf("May of %v is %v", l, got)
		}
		if got := l.Ghost(); got != (l.Kind == hold || l.Kind == leaveFrom || l.Kind == leaveTo) {
			t.Errorf("Ghost of %v is %v", l, got)
		}
		if got := l.Entering(); got != (l.Kind == enterFrom || l.Kind == enterTo) {
			t.Errorf("Entering of %v is %v", l, got)
		}
		if got := l.Leaving(); got != (l.Kind == leaveFrom || l.Kind == leaveTo) {
			t.Errorf("Leaving of %v is %v", l, got)
		}
		want := marks(l.Kind)
		if l.Move != unmoved {
			want = append(want, "t-move")
		}
		if got := l.Classes(); !slices.Equal(got, want) {
			t.Errorf("Classes of %v are %v, wanted %v", l, got, want)
		}
		if got, want := l.Put(dress.Own{}), put(l, dress.Own{}); !same(got, want) {
			t.Errorf("Put of %v on nothing is %v, wanted %v", l, got, want)
		}
	}
}

// told is all that a node has, as a text.
func told(o dress.Own) string {
	words := slices.Clone(o.Classes)
	for _, p := range o.Attrs {
		words = append(words, "@"+p.Name+"="+p.Value)
	}
	for _, p := range o.Styles {
		words = append(words, p.Name+"="+strconv.Itoa(p.Value))
	}
	return strings.Join(words, " ")
}

// P20.1: the chapter's example, and each mark beside what the node has itself.
func TestPut(t *testing.T) {
	o := dress.Own{
		Classes: []string{"on", "b", "on"},
		Attrs:   props.Map[string]{{Name: "z", Value: "1"}, {Name: "role", Value: "x"}, {Name: "z", Value: "2"}},
		Styles:  props.Map[int]{{Name: "w", Value: 3}, {Name: "h", Value: -1}},
	}
	for want, l := range map[string]dress.Look{
		"on b @role=x @z=2 h=-1 w=3":                                            {},
		"on b t-wait @role=x @z=2 h=-1 w=3":                                     {Kind: wait},
		"on b t-enter-from t-enter-active @role=x @z=2 h=-1 w=3":                {Kind: enterFrom},
		"on b t-enter-active t-enter-to @role=x @z=2 h=-1 w=3":                  {Kind: enterTo},
		"on b t-hold @role=x @t-ghost= @z=2 h=-1 w=3":                           {Kind: hold},
		"on b t-leave-from t-leave-active @role=x @t-ghost= @z=2 h=-1 w=3":      {Kind: leaveFrom},
		"on b t-leave-active t-leave-to @role=x @t-ghost= @z=2 h=-1 w=3":        {Kind: leaveTo},
		"on b t-move @role=x @z=2 h=-1 t-dx=-2 t-dy=0 w=3":                      {Move: away, DX: -2},
		"on b t-move @role=x @z=2 h=-1 t-dx=0 t-dy=0 w=3":                       {Move: away},
		"on b t-move @role=x @z=2 h=-1 w=3":                                     {Move: back},
		"on b t-leave-active t-leave-to t-move @role=x @t-ghost= @z=2 h=-1 w=3": {Kind: leaveTo, Move: 9, DX: 4},
	} {
		if got := told(l.Put(o)); got != want {
			t.Errorf("Put of %v is %q, wanted %q", l, got, want)
		}
	}
	if got := told(dress.Look{Kind: leaveTo}.Put(dress.Own{})); got != "t-leave-active t-leave-to @t-ghost=" {
		t.Errorf("Put of LeaveTo on nothing is %q", got)
	}
}

// P20.1: a node that has reserved names already keeps the ones that no mark needs,
// and its marks are there once.
func TestPutOnMarks(t *testing.T) {
	o := dress.Own{
		Classes: []string{"t-move", "a", "t-enter-active", "t-x", "a"},
		Attrs:   props.Map[string]{{Name: "t-x", Value: "5"}, {Name: "t-ghost", Value: "6"}},
		Styles:  props.Map[int]{{Name: "t-dy", Value: 7}, {Name: "t-dx", Value: 8}, {Name: "a", Value: 9}},
	}
	for want, l := range map[string]dress.Look{
		"t-move a t-enter-active t-x @t-ghost=6 @t-x=5 a=9 t-dx=8 t-dy=7":              {},
		"t-move a t-enter-active t-x t-enter-from @t-ghost=6 @t-x=5 a=9 t-dx=8 t-dy=7": {Kind: enterFrom},
		"t-move a t-enter-active t-x t-hold @t-ghost= @t-x=5 a=9 t-dx=8 t-dy=7":        {Kind: hold},
		"t-move a t-enter-active t-x @t-ghost=6 @t-x=5 a=9 t-dx=1 t-dy=-1":             {Move: away, DX: 1, DY: -1},
		"t-move a t-enter-active t-x t-enter-to @t-ghost=6 @t-x=5 a=9 t-dx=8 t-dy=7":   {Kind: enterTo, Move: back},
	} {
		if got := told(l.Put(o)); got != want {
			t.Errorf("Put of %v is %q, wanted %q", l, got, want)
		}
	}
	if got := told(dress.Take(o)); got != "a a a=9" {
		t.Errorf("Take is %q", got)
	}
}

// P20.1: Take leaves out what begins with t-, and nothing else.
func TestTake(t *testing.T) {
	for want, o := range map[string]dress.Own{
		"": {},
		"a T-a t -t- xt- @T-a=1 @t=2 tt=4": {
			Classes: strings.Fields("t- a t-a T-a t -t- t-- xt-"),
			Attrs:   props.Map[string]{{Name: "t", Value: "2"}, {Name: "t-", Value: "9"}, {Name: "T-a", Value: "1"}},
			Styles:  props.Map[int]{{Name: "tt", Value: 3}, {Name: "t-t", Value: 5}, {Name: "tt", Value: 4}},
		},
	} {
		if got := told(dress.Take(o)); got != want {
			t.Errorf("Take is %q, wanted %q", got, want)
		}
	}
}

// P20.1: Put and Take of nodes that have any names, valid or reserved or repeated.
func TestAgainstModel(t *testing.T) {
	r := rand.New(rand.NewSource(20))
	all, names := looks(), strings.Fields(plain+" "+strange)
	for range 20000 {
		l, o := all[r.Intn(len(all))], own(r, names)
		if r.Intn(2) == 0 {
			l.Kind = r.Intn(7)
		}
		kept := copied(o)
		if got, want := l.Put(o), put(l, o); !same(got, want) {
			t.Fatalf("Put of %v on %v is %v, wanted %v", l, o, got, want)
		}
		if got, want := dress.Take(o), take(o); !same(got, want) {
			t.Fatalf("Take of %v is %v, wanted %v", o, got, want)
		}
		if !same(o, kept) {
			t.Fatalf("%v has become %v", kept, o)
		}
	}
}

// P20.2: Take of Put is what was there before, each class once, whatever the look is.
func TestTakeOfPut(t *testing.T) {
	r := rand.New(rand.NewSource(21))
	all, names := looks(), strings.Fields(plain)
	for i := range 20000 {
		l, o := all[i%len(all)], own(r, names)
		want := dress.Own{Classes: once(o.Classes), Attrs: ordered(values(o.Attrs)), Styles: ordered(values(o.Styles))}
		if got := dress.Take(l.Put(o)); !same(got, want) {
			t.Fatalf("Take of Put of %v on %v is %v", l, o, got)
		}
		if got := dress.Take(l.Put(l.Put(o))); !same(got, want) {
			t.Fatalf("Take of two Puts of %v on %v is %v", l, o, got)
		}
	}
}

// P20.3: of any two valid looks, a node without reserved names is marked differently.
func TestDifferent(t *testing.T) {
	r := rand.New(rand.NewSource(22))
	for range 20 {
		o := own(r, strings.Fields(plain))
		seen := map[string]dress.Look{}
		for _, l := range looks() {
			if !l.May() {
				continue
			}
			marked := told(l.Put(o))
			if other, twice := seen[marked]; twice {
				t.Fatalf("%v and %v are both %q", other, l, marked)
			}
			seen[marked] = l
		}
		if want := 7 + 8*8 + 1; len(seen) != want {
			t.Fatalf("%d valid looks, wanted %d", len(seen), want)
		}
	}
}

// spoil overwrites all that o has, to the ends of its capacities.
func spoil(o dress.Own) {
	for i := range o.Classes[:cap(o.Classes)] {
		o.Classes[:cap(o.Classes)][i] = "spoilt"
	}
	for i := range o.Attrs[:cap(o.Attrs)] {
		o.Attrs[:cap(o.Attrs)][i] = props.Pair[string]{Name: "spoilt", Value: "spoilt"}
	}
	for i := range o.Styles[:cap(o.Styles)] {
		o.Styles[:cap(o.Styles)][i] = props.Pair[int]{Name: "spoilt", Value: 77}
	}
}

// cut is a node of which all lists have spare capacity that is in use elsewhere, and
// that whole.
func cut(r *rand.Rand, names []string) (part, whole dress.Own) {
	whole = own(r, names)
	part = dress.Own{
		Classes: whole.Classes[:r.Intn(len(whole.Classes)+1)],
		Attrs:   whole.Attrs[:r.Intn(len(whole.Attrs)+1)],
		Styles:  whole.Styles[:r.Intn(len(whole.Styles)+1)],
	}
	return part, whole
}

// Rule 5: nothing that is passed changes, its spare capacity included, and all results
// are new memory.
func TestMemory(t *testing.T) {
	r := rand.New(rand.NewSource(23))
	all := append(kinds(), dress.Look{Move: away, DX: 1}, dress.Look{Move: back}, dress.Look{Kind: 9})
	for i := range 3000 {
		l := all[i%len(all)]
		part, whole := cut(r, strings.Fields(plain))
		kept, want, less := copied(whole), put(l, part), take(part)
		first, second := l.Put(part), l.Put(part)
		third, fourth := dress.Take(part), dress.Take(part)
		spoil(first)
		spoil(third)
		if !same(whole, kept) {
			t.Fatalf("%v has become %v", kept, whole)
		}
		spoil(whole)
		if !same(second, want) || !same(fourth, less) {
			t.Fatalf("results are %v and %v, wanted %v and %v", second, fourth, want, less)
		}
	}
	for _, l := range all {
		list := l.Classes()
		for i := range list[:cap(list)] {
			list[:cap(list)][i] = "spoilt"
		}
		if slices.Contains(l.Classes(), "spoilt") {
			t.Errorf("the classes of %v are %v", l, l.Classes())
		}
	}
}
