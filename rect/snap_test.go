package rect_test

import (
	"math"
	"math/rand"
	"slices"
	"testing"

	"scrim/rect"
)

func entry(id, x, y, w, h int) rect.Entry {
	return rect.Entry{ID: id, Rect: rect.Rect{X: x, Y: y, W: w, H: h}}
}

// last is what a Snap has for an ID, spelt out: its last entry.
func last(s []rect.Entry, id int) (r rect.Rect, there bool) {
	for _, e := range s {
		if e.ID == id {
			r, there = e.Rect, true
		}
	}
	return r, there
}

// numbers returns the IDs, each once, from the least to the greatest.
func numbers(s []rect.Entry) []int {
	seen := map[int]bool{}
	for _, e := range s {
		seen[e.ID] = true
	}
	var l []int
	for len(seen) > 0 {
		least := math.MaxInt
		for id := range seen {
			least = min(least, id)
		}
		delete(seen, least)
		l = append(l, least)
	}
	return l
}

// picked returns the IDs with their last rectangles that are picked.
func picked(s []rect.Entry, pick func(int, rect.Rect) bool) []int {
	var l []int
	for _, id := range numbers(s) {
		if r, _ := last(s, id); pick(id, r) {
			l = append(l, id)
		}
	}
	return l
}

// snap is SnapOf, spelt out independently of the program.
func snap(s []rect.Entry) rect.Snap {
	var l rect.Snap
	for _, id := range numbers(s) {
		r, _ := last(s, id)
		l = append(l, rect.Entry{ID: id, Rect: r})
	}
	return l
}

// agree holds all functions of two Snaps, whatever their form is, against the model.
func agree(t *testing.T, a, b rect.Snap) {
	t.Helper()
	if got := rect.SnapOf(a...); !slices.Equal(got, snap(a)) {
		t.Fatalf("SnapOf %v is %v", a, got)
	}
	for id := -2; id < 12; id++ {
		want, should := last(a, id)
		if got, there := a.Get(id); got != want || there != should {
			t.Fatalf("%d of %v is %v %v, wanted %v %v", id, a, got, there, want, should)
		}
	}
	if got := a.Same(b); got != slices.Equal(snap(a), snap(b)) || got != b.Same(a) || !a.Same(snap(a)) || !snap(a).Same(a) {
		t.Fatalf("%v and %v are the same: %v", a, b, got)
	}
	moved := picked(a, func(id int, r rect.Rect) bool {
		o, there := last(b, id)
		return there && (o.X != r.X || o.Y != r.Y)
	})
	if got := a.Moved(b); !slices.Equal(got, moved) || !slices.Equal(got, b.Moved(a)) {
		t.Fatalf("from %v to %v Moved is %v, wanted %v", a, b, got, moved)
	}
	for x := range 5 {
		for y := range 5 {
			hit := picked(a, func(_ int, r rect.Rect) bool { return r.Has(x, y) })
			if got := a.Hit(x, y); !slices.Equal(got, hit) {
				t.Fatalf("Hit %d %d of %v is %v, wanted %v", x, y, a, got, hit)
			}
		}
	}
}

// P13.1: order, and several entries of one ID.
func TestSnapExamples(t *testing.T) {
	for _, c := range []struct {
		l    []rect.Entry
		want rect.Snap
	}{
		{nil, nil}, {[]rect.Entry{}, nil}, {[]rect.Entry{{}}, rect.Snap{{}}},
		{[]rect.Entry{entry(7, 1, 1, 1, 1), entry(2, 3, 3, 3, 3), entry(7, 5, 5, 5, 5)}, rect.Snap{entry(2, 3, 3, 3, 3), entry(7, 5, 5, 5, 5)}},
		{[]rect.Entry{entry(1, 1, 0, 0, 0), entry(1, 2, 0, 0, 0), entry(1, 3, 0, 0, 0)}, rect.Snap{entry(1, 3, 0, 0, 0)}},
		{[]rect.Entry{entry(1, 9, 9, 9, 9), {ID: 1}}, rect.Snap{{ID: 1}}},
		{[]rect.Entry{{ID: math.MaxInt}, {ID: 0}, {ID: math.MinInt}, {ID: -1}}, rect.Snap{{ID: math.MinInt}, {ID: -1}, {ID: 0}, {ID: math.MaxInt}}},
		{[]rect.Entry{entry(0, math.MinInt, math.MaxInt, -1, 1<<40)}, rect.Snap{entry(0, math.MinInt, math.MaxInt, -1, 1<<40)}},
	} {
		if got := rect.SnapOf(c.l...); !slices.Equal(got, c.want) {
			t.Errorf("SnapOf %v is %v, wanted %v", c.l, got, c.want)
		}
		agree(t, c.l, c.want)
	}
	if got := rect.SnapOf(entry(3, 0, 0, 1, 1), entry(1, 0, 0, 2, 2)); !slices.Equal(got, rect.Snap{entry(1, 0, 0, 2, 2), entry(3, 0, 0, 1, 1)}) {
		t.Errorf("one by one: %v", got)
	}
}

// P13.1: what each function of a Snap tells apart.
func TestSnap(t *testing.T) {
	a := rect.SnapOf(entry(1, 0, 0, 9, 9), entry(2, 1, 1, 2, 2), entry(3, 2, 2, 4, 4), entry(4, 1, 1, 0, 3), entry(5, -1, 0, 2, 1))
	b := rect.SnapOf(entry(0, 5, 5, 5, 5), entry(1, 0, 0, 3, 3), entry(2, 1, 2, 2, 2), entry(3, 3, 2, 4, 4), entry(5, -1, 0, 2, 1), entry(6, 1, 1, 1, 1))
	if r, there := a.Get(3); !there || r != (rect.Rect{X: 2, Y: 2, W: 4, H: 4}) {
		t.Errorf("Get is %v %v", r, there)
	}
	for _, id := range []int{0, 6, -1, math.MinInt, math.MaxInt} {
		if r, there := a.Get(id); there || r != (rect.Rect{}) {
			t.Errorf("Get of %d is %v %v", id, r, there)
		}
	}
	if got := a.Moved(b); !slices.Equal(got, []int{2, 3}) {
		t.Errorf("another X or another Y: %v", got)
	}
	if len(a.Moved(a)) != 0 || len(a.Moved(nil)) != 0 || len(rect.Snap(nil).Moved(a)) != 0 {
		t.Error("what is nowhere else has Moved")
	}
	for _, c := range []struct {
		x, y int
		want []int
	}{{0, 0, []int{1, 5}}, {1, 1, []int{1, 2}}, {2, 2, []int{1, 2, 3}}, {3, 3, []int{1, 3}}, {8, 8, []int{1}}, {9, 8, nil}, {-1, 0, []int{5}}, {math.MaxInt, math.MinInt, nil}} {
		if got := a.Hit(c.x, c.y); !slices.Equal(got, c.want) {
			t.Errorf("Hit %d %d is %v", c.x, c.y, got)
		}
	}
	if !a.Same(a) || a.Same(b) || a.Same(a[1:]) || a[1:].Same(a) || a.Same(nil) || !rect.Snap(nil).Same(rect.Snap{}) {
		t.Error("Same")
	}
	for i, other := range []rect.Entry{entry(0, 0, 0, 9, 9), entry(1, 1, 0, 9, 9), entry(1, 0, 1, 9, 9), entry(1, 0, 0, 8, 9), entry(1, 0, 0, 9, 8)} {
		if o := append(rect.Snap{other}, a[1:]...); a.Same(o) || o.Same(a) {
			t.Errorf("another one, %d, is the same", i)
		}
	}
}

// P13.1: Snaps that do not have the form count as SnapOf of their entries.
func TestOtherForm(t *testing.T) {
	odd := rect.Snap{entry(5, 0, 0, 1, 1), entry(3, 0, 0, 2, 2), entry(5, 4, 4, 1, 1), entry(1, 0, 0, 1, 1), entry(1, 0, 0, 1, 1)}
	if r, there := odd.Get(5); !there || r != (rect.Rect{X: 4, Y: 4, W: 1, H: 1}) {
		t.Errorf("Get is %v %v", r, there)
	}
	if got := odd.Hit(0, 0); !slices.Equal(got, []int{1, 3}) {
		t.Errorf("Hit is %v", got)
	}
	o := rect.SnapOf(entry(1, 0, 0, 1, 1), entry(3, 0, 1, 2, 2), entry(5, 0, 0, 1, 1))
	if got := odd.Moved(o); !slices.Equal(got, []int{3, 5}) {
		t.Errorf("Moved is %v", got)
	}
	if got := o.Moved(odd); !slices.Equal(got, []int{3, 5}) {
		t.Errorf("Moved the other way round is %v", got)
	}
	if !odd.Same(rect.Snap{entry(1, 0, 0, 1, 1), entry(3, 0, 0, 2, 2), entry(5, 4, 4, 1, 1)}) || odd.Same(o) || o.Same(odd) {
		t.Error("Same")
	}
}

// some returns entries of few IDs; in a long list each has many.
func some(r *rand.Rand) rect.Snap {
	l := make(rect.Snap, r.Intn([]int{10, 80}[r.Intn(2)]))
	for i := range l {
		l[i] = entry(r.Intn(10), r.Intn(3), r.Intn(3), r.Intn(4)-1, r.Intn(4)-1)
	}
	return l
}

// changed is a Snap of which some entries are in another place, are others, or are
// repeated.
func changed(r *rand.Rand, s rect.Snap) rect.Snap {
	s = slices.Clone(s)
	for range r.Intn(3) {
		if i := r.Intn(len(s) + 1); i < len(s) {
			s = slices.Insert(s, r.Intn(len(s)+1), s[i])
		}
		if i := r.Intn(len(s) + 1); i < len(s) && r.Intn(2) > 0 {
			s[i].Rect = s[i].Rect.At(r.Intn(2), r.Intn(2))
		}
	}
	return s
}

// P13.1: Snaps of any form.
func TestAgainstModel(t *testing.T) {
	r := rand.New(rand.NewSource(13))
	for range 5000 {
		a := some(r)
		agree(t, a, some(r))
		agree(t, a, changed(r, a))
		agree(t, snap(a), snap(changed(r, a)))
	}
}

// P1: nothing that is passed is changed, nor its spare capacity, and no memory is
// shared with it or with another result.
func TestMemory(t *testing.T) {
	odd := []rect.Entry{entry(5, 1, 1, 1, 1), entry(3, 0, 0, 2, 2), entry(5, 0, 0, 1, 1), entry(1, 0, 0, 1, 1)}
	spare := append(make([]rect.Entry, 0, 8), odd...)
	all := append(slices.Clone(odd), make([]rect.Entry, 4)...)
	s := rect.Snap(spare)
	of, again := rect.SnapOf(spare...), rect.SnapOf(spare...)
	ordered := rect.SnapOf(of...)
	hit, moved := s.Hit(0, 0), s.Moved(rect.Snap{entry(3, 9, 9, 9, 9)})
	s.Get(5)
	s.Same(s)
	if !slices.Equal(spare[:8], all) {
		t.Errorf("what was passed is %v", spare[:8])
	}
	clear(spare)
	clear(of[:cap(of)])
	clear(s.Hit(0, 0))
	want := rect.Snap{entry(1, 0, 0, 1, 1), entry(3, 0, 0, 2, 2), entry(5, 0, 0, 1, 1)}
	if !slices.Equal(again, want) || !slices.Equal(ordered, want) || !slices.Equal(hit, []int{1, 3, 5}) || !slices.Equal(moved, []int{3}) {
		t.Errorf("a change elsewhere made %v, %v, %v and %v", again, ordered, hit, moved)
	}
}

// P1: long Snaps of each form end soon.
func TestLongSnaps(t *testing.T) {
	const long = 1 << 17
	up := make(rect.Snap, long)
	for i := range up {
		up[i] = entry(i, i, 0, 2, 1)
	}
	down, one := slices.Clone(up), slices.Repeat(rect.Snap{entry(4, 4, 0, 2, 1)}, long)
	slices.Reverse(down)
	for _, s := range []rect.Snap{up, down} {
		if !s.Same(up) || len(s.Moved(up)) != 0 || !slices.Equal(s.Hit(9, 0), []int{8, 9}) || len(rect.SnapOf(s...)) != long {
			t.Error("different IDs")
		}
	}
	if !one.Same(up[4:5]) || len(one.Moved(up)) != 0 || !slices.Equal(one.Hit(4, 0), []int{4}) || len(rect.SnapOf(one...)) != 1 {
		t.Error("one ID")
	}
	if r, there := one.Get(4); !there || r.X != 4 {
		t.Errorf("Get is %v %v", r, there)
	}
}
