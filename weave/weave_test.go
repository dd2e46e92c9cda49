package weave_test

import (
	"math"
	"math/rand"
	"slices"
	"testing"

	"scrim/weave"
)

func list(l ...int) []int { return l }

func drop(id int) weave.Step       { return weave.Step{Kind: weave.Drop, ID: id} }
func insert(id, at int) weave.Step { return weave.Step{Kind: weave.Insert, ID: id, At: at} }
func move(id, at int) weave.Step   { return weave.Step{Kind: weave.Move, ID: id, At: at} }

// agree holds Merge, Steps, Apply and Moves of two lists against the model, and
// against what they promise.
func agree(t *testing.T, a, b []int) {
	t.Helper()
	if got, want := weave.Merge(a, b), merged(a, b); !slices.Equal(got, want) {
		t.Fatalf("Merge of %v and %v is %v, wanted %v", a, b, got, want)
	}
	got, want := weave.Steps(a, b), steps(a, b)
	if !slices.Equal(got, want) {
		t.Fatalf("Steps of %v and %v are %v, wanted %v", a, b, got, want)
	}
	if row, done := weave.Apply(a, got); !done || !slices.Equal(row, single(b)) {
		t.Fatalf("%v after %v is %v %v, wanted %v", a, got, row, done, b)
	}
	var ids []int
	for _, s := range got {
		ids = append(ids, s.ID)
	}
	if len(single(ids)) != len(ids) {
		t.Fatalf("Steps of %v and %v have a number twice: %v", a, b, got)
	}
	common := among(single(b), a)
	if n := weave.Moves(got); n != len(common)-len(stays(single(a), single(b))) {
		t.Fatalf("Steps of %v and %v have %d Moves", a, b, n)
	}
}

// P12.1: the document's example, and the edges of Merge.
func TestMergeExamples(t *testing.T) {
	for _, c := range []struct{ was, live, want []int }{
		{list(1, 2, 3, 4), list(4, 5, 2), list(1, 4, 5, 2, 3)},
		{nil, nil, nil}, {nil, list(2, 1), list(2, 1)}, {list(2, 1), nil, list(2, 1)}, {list(1), list(1), list(1)},
		{list(1, 2, 3), list(3, 1), list(3, 1, 2)}, {list(1, 2, 3), list(1, 3), list(1, 2, 3)},
		{list(1, 2, 3), list(4), list(1, 2, 3, 4)}, {list(1, 2, 3), list(4, 2, 5), list(1, 4, 2, 3, 5)},
		{list(1, 2, 3, 4, 5), list(4, 2), list(1, 4, 5, 2, 3)}, {list(9, 1, 8, 7, 2, 6), list(2, 1), list(9, 2, 6, 1, 8, 7)},
		{list(1, 1, 2, 1, 2), nil, list(1, 2)}, {nil, list(1, 1, 2, 1), list(1, 2)},
		{list(1, 2, 1, 3), list(2, 1), list(2, 3, 1)}, {list(3, 1, 3, 2), list(1, 2, 1), list(3, 1, 2)},
		{list(math.MinInt, 0, math.MaxInt, -1), list(math.MaxInt, 7, math.MinInt), list(math.MaxInt, -1, 7, math.MinInt, 0)},
	} {
		if got := weave.Merge(c.was, c.live); !slices.Equal(got, c.want) {
			t.Errorf("Merge of %v and %v is %v, wanted %v", c.was, c.live, got, c.want)
		}
		agree(t, c.was, c.live)
	}
}

// P12.1: the document's example, and the edges of Steps.
func TestStepsExamples(t *testing.T) {
	for _, c := range []struct {
		from, to []int
		want     []weave.Step
	}{
		{list(1, 2, 3), list(3, 1, 4), []weave.Step{drop(2), insert(4, 2), move(3, 0)}},
		{nil, nil, nil}, {list(1, 2), list(1, 2), nil}, {list(1, 2), nil, []weave.Step{drop(1), drop(2)}},
		{nil, list(1, 2), []weave.Step{insert(2, 0), insert(1, 0)}}, {list(5), list(6), []weave.Step{drop(5), insert(6, 0)}},
		{list(1, 2), list(2, 1), []weave.Step{move(2, 0)}}, {list(1, 2, 3, 4, 5), list(5, 1, 2, 3, 4), []weave.Step{move(5, 0)}},
		{list(1, 2, 3), list(2, 3, 1), []weave.Step{move(1, 2)}}, {list(1, 2, 3), list(3, 2, 1), []weave.Step{move(2, 0), move(3, 0)}},
		{list(1, 2, 3), list(1, 4, 2, 5, 3), []weave.Step{insert(5, 2), insert(4, 1)}},
		{list(1, 2, 3, 4), list(4, 9, 1), []weave.Step{drop(2), drop(3), insert(9, 0), move(4, 0)}},
		{list(1, 2, 3, 4), list(2, 1, 4, 3), []weave.Step{move(4, 2), move(2, 0)}},
		{list(4, 3, 2, 1), list(9, 3, 8, 4), []weave.Step{drop(2), drop(1), insert(8, 0), move(3, 0), insert(9, 0)}},
		{list(1, 2, 1, 3, 2), list(3, 3, 1, 3), []weave.Step{drop(2), move(3, 0)}},
		{list(math.MaxInt, math.MinInt), list(math.MinInt, -1, math.MaxInt), []weave.Step{insert(-1, 0), move(math.MinInt, 0)}},
	} {
		if got := weave.Steps(c.from, c.to); !slices.Equal(got, c.want) {
			t.Errorf("Steps of %v and %v are %v, wanted %v", c.from, c.to, got, c.want)
		}
		agree(t, c.from, c.to)
	}
}

// P12.1: steps that are possible, and those that are not, wherever they stand.
func TestApplyExamples(t *testing.T) {
	l := list(1, 2, 1, 3)
	for _, c := range []struct {
		want  []int
		steps []weave.Step
	}{
		{list(1, 2, 3), nil}, {list(1, 3), []weave.Step{drop(2)}}, {nil, []weave.Step{drop(3), drop(1), drop(2)}},
		{list(4, 1, 2, 3), []weave.Step{insert(4, 0)}}, {list(1, 2, 3, 4), []weave.Step{insert(4, 3)}},
		{list(2, 3, 1), []weave.Step{move(1, 2)}}, {list(3, 1, 2), []weave.Step{move(3, 0)}}, {list(1, 2, 3), []weave.Step{move(2, 1)}},
		{list(1, 3, 2), []weave.Step{drop(2), insert(2, 2)}}, {list(2, 1, 3), []weave.Step{move(1, 2), move(3, 2), move(1, 1)}},
		{list(1, 3), []weave.Step{{Kind: weave.Drop, ID: 2, At: -9}}}, {list(1, 2), []weave.Step{{Kind: weave.Drop, ID: 3, At: 99}}},
		{list(1, 2, 3, math.MinInt), []weave.Step{insert(math.MinInt, 3)}},
	} {
		if got, done := weave.Apply(l, c.steps); !done || !slices.Equal(got, c.want) {
			t.Errorf("after %v: %v %v, wanted %v", c.steps, got, done, c.want)
		}
	}
	for _, s := range []weave.Step{
		drop(4), drop(0), insert(1, 0), insert(3, 9), insert(4, 4), insert(4, -1), insert(4, math.MaxInt), insert(4, math.MinInt),
		move(4, 0), move(1, 3), move(1, 4), move(1, -1), move(3, math.MaxInt), move(3, math.MinInt),
		{}, {ID: 1}, {Kind: 4, ID: 1}, {Kind: 4, ID: 4}, {Kind: -1, ID: 1}, {Kind: math.MinInt, ID: 4}, {Kind: math.MaxInt, ID: 1},
	} {
		for _, all := range [][]weave.Step{{s}, {s, drop(1)}, {insert(9, 0), drop(9), s}, {move(1, 2), move(1, 0), s, s}} {
			if got, done := weave.Apply(l, all); done || len(got) != 0 {
				t.Errorf("after %v: %v %v", all, got, done)
			}
		}
	}
	if got, done := weave.Apply(nil, nil); !done || len(got) != 0 {
		t.Errorf("nothing: %v %v", got, done)
	}
	if got, done := weave.Apply(nil, []weave.Step{insert(7, 0)}); !done || !slices.Equal(got, list(7)) {
		t.Errorf("the first one: %v %v", got, done)
	}
}

// P12.1: Moves, and the numbers of the kinds.
func TestMoves(t *testing.T) {
	if weave.Drop != 1 || weave.Insert != 2 || weave.Move != 3 {
		t.Errorf("the kinds are %d %d %d", weave.Drop, weave.Insert, weave.Move)
	}
	for _, c := range []struct {
		want  int
		steps []weave.Step
	}{
		{0, nil}, {0, []weave.Step{drop(3), insert(3, 3), {}, {Kind: 4}, {Kind: -3}}}, {1, []weave.Step{move(0, 0)}},
		{3, []weave.Step{move(1, 9), drop(1), move(1, -9), move(1, 9)}},
	} {
		if got := weave.Moves(c.steps); got != c.want {
			t.Errorf("Moves of %v are %d, wanted %d", c.steps, got, c.want)
		}
	}
}

// everyList passes all lists of up to long numbers, of which there are span.
func everyList(long, span int, pass func([]int)) {
	var grow func(l []int)
	grow = func(l []int) {
		pass(l)
		for n := range span {
			if len(l) < long {
				grow(append(slices.Clone(l), n))
			}
		}
	}
	grow(nil)
}

// P12.1, P12.2: every two lists of up to four numbers out of four.
func TestAllShortLists(t *testing.T) {
	everyList(4, 4, func(a []int) {
		everyList(4, 4, func(b []int) { agree(t, a, b) })
	})
}

// P12.2: as few Moves as any way has that has one step for each number at most,
// for all lists of different numbers out of five.
func TestFewestMoves(t *testing.T) {
	var lists [][]int
	everyList(5, 5, func(l []int) {
		if len(single(l)) == len(l) {
			lists = append(lists, l)
		}
	})
	for _, from := range lists {
		most := fewest(from)
		for _, to := range lists {
			want, there := most[stateOf(to, 0).digits]
			if got := weave.Moves(weave.Steps(from, to)); !there || got != want {
				t.Fatalf("Steps of %v and %v have %d Moves, wanted %d", from, to, got, want)
			}
		}
	}
}

// some returns numbers, some of them several times.
func some(r *rand.Rand, most, span int) []int {
	l := make([]int, r.Intn(most+1))
	for i := range l {
		l[i] = r.Intn(span) - span/4
		if r.Intn(30) == 0 {
			l[i] = []int{math.MinInt, math.MaxInt, 1 << 40}[r.Intn(3)]
		}
	}
	return l
}

// edited is a list with some numbers removed, inserted and moved.
func edited(r *rand.Rand, l []int) []int {
	l = slices.Clone(l)
	for range r.Intn(8) {
		if i := r.Intn(len(l) + 1); i < len(l) {
			n := l[i]
			l = slices.Delete(l, i, i+1)
			if r.Intn(3) > 0 {
				l = slices.Insert(l, r.Intn(len(l)+1), n)
			}
		}
		if r.Intn(3) == 0 {
			l = slices.Insert(l, r.Intn(len(l)+1), 1000+r.Intn(9))
		}
	}
	return l
}

// P12.1, P12.2: longer lists, which have much or little in common.
func TestAgainstModel(t *testing.T) {
	r := rand.New(rand.NewSource(12))
	for range 5000 {
		a := some(r, 40, 1+r.Intn(60))
		agree(t, a, some(r, 40, 1+r.Intn(60)))
		agree(t, a, edited(r, a))
		a = r.Perm(r.Intn(30))
		agree(t, a, r.Perm(r.Intn(30)))
		agree(t, a, edited(r, a))
	}
}

// P12.1: Apply of steps that are possible, of which some are spoilt.
func TestApplyAgainstModel(t *testing.T) {
	r, all, failed := rand.New(rand.NewSource(13)), 20000, 0
	for range all {
		l := some(r, 10, 10)
		way := weave.Steps(l, edited(r, some(r, 10, 10)))
		for range r.Intn(3) {
			s := weave.Step{Kind: 1 + r.Intn(3), ID: r.Intn(10) - 2, At: r.Intn(8)}
			if r.Intn(8) == 0 {
				s.Kind, s.At = r.Intn(6)-1, r.Intn(20)-5
			}
			way = slices.Insert(way, r.Intn(len(way)+1), s)
		}
		want, should := after(l, way)
		got, done := weave.Apply(l, way)
		if done != should || !slices.Equal(got, want) {
			t.Fatalf("%v after %v is %v %v, wanted %v %v", l, way, got, done, want, should)
		}
		if !done {
			failed++
		}
	}
	if failed < all/10 || failed > all*9/10 {
		t.Errorf("%d of %d failed", failed, all)
	}
}

// P12.3: the elements of live are in their order, and so are the ghosts that follow
// the same one; all ghosts are, if live is in the order of was.
func TestMergeKeepsOrders(t *testing.T) {
	r := rand.New(rand.NewSource(14))
	for range 20000 {
		was, live := single(some(r, 12, 16)), single(some(r, 12, 16))
		row := weave.Merge(was, live)
		ghosts := without(was, live)
		if !slices.Equal(among(row, live), live) || len(row) != len(live)+len(ghosts) {
			t.Fatalf("Merge of %v and %v is %v", was, live, row)
		}
		var group []int
		for _, n := range append(slices.Clone(row), live...) {
			if slices.Contains(ghosts, n) {
				group = append(group, n)
				continue
			}
			if !slices.Equal(group, among(ghosts, group)) {
				t.Fatalf("Merge of %v and %v is %v: %v are not in order", was, live, row, group)
			}
			group = nil
		}
		if slices.Equal(among(was, live), among(live, was)) && !slices.Equal(among(row, ghosts), ghosts) {
			t.Fatalf("Merge of %v and %v is %v: the ghosts are not in order", was, live, row)
		}
		if merged := weave.Merge(was, among(was, live)); !slices.Equal(merged, was) {
			t.Fatalf("Merge of %v and a part of it is %v", was, merged)
		}
	}
}

// P1: nothing that is passed is changed, nor its spare capacity, and no memory is
// shared with it or with another result.
func TestMemory(t *testing.T) {
	spare := func(l ...int) []int { return append(make([]int, 0, 12), l...) }
	was, live := spare(1, 2, 3, 4, 5), spare(4, 6, 2, 2)
	way := append(make([]weave.Step, 0, 9), drop(1), insert(9, 1), move(3, 0))
	one, two, untouched := weave.Merge(was, live), weave.Merge(was, nil), weave.Merge(nil, live)
	steps := weave.Steps(was, live)
	applied, _ := weave.Apply(was, way)
	same, _ := weave.Apply(was, nil)
	weave.Moves(way)
	zeros := make([]int, 12)
	if !slices.Equal(was[:12], append(list(1, 2, 3, 4, 5), zeros[5:]...)) || !slices.Equal(live[:12], append(list(4, 6, 2, 2), zeros[4:]...)) ||
		!slices.Equal(way[:9], append([]weave.Step{drop(1), insert(9, 1), move(3, 0)}, make([]weave.Step, 6)...)) {
		t.Errorf("what was passed is %v, %v and %v", was[:12], live[:12], way[:9])
	}
	for _, l := range [][]int{was, live, weave.Merge(list(1, 2, 3, 4, 5), list(4, 6, 2))} {
		clear(l[:cap(l)])
	}
	clear(way)
	clear(weave.Steps(list(1, 2, 3, 4, 5), list(4, 6, 2)))
	for _, c := range []struct{ got, want []int }{
		{one, list(1, 4, 5, 6, 2, 3)}, {two, list(1, 2, 3, 4, 5)}, {untouched, list(4, 6, 2)}, {applied, list(3, 2, 9, 4, 5)}, {same, list(1, 2, 3, 4, 5)},
	} {
		if !slices.Equal(c.got, c.want) {
			t.Errorf("a change elsewhere made %v of %v", c.got, c.want)
		}
		clear(c.got[:cap(c.got)])
	}
	if !slices.Equal(steps, []weave.Step{drop(1), drop(3), drop(5), insert(6, 0), move(4, 0)}) {
		t.Errorf("a change elsewhere made %v", steps)
	}
}

// P1: long lists of each kind end soon.
func TestLongLists(t *testing.T) {
	const long = 1 << 17
	up := make([]int, long)
	for i := range up {
		up[i] = i
	}
	down, flat := slices.Clone(up), make([]int, long)
	slices.Reverse(down)
	mixed := rand.New(rand.NewSource(15)).Perm(long)
	for _, c := range []struct {
		what        string
		from, to    []int
		steps, most int
	}{
		{"the same", up, up, 0, 0}, {"all gone", up, nil, long, 0}, {"all new", nil, up, long, 0},
		{"turned round", up, down, long - 1, long - 1}, {"one number", flat, flat, 0, 0}, {"rotated", up, append(slices.Clone(up[1:]), 0), 1, 1},
		{"mixed", up, mixed, -1, long}, {"less", up, mixed[:long/2], -1, long / 2}, {"more", down[:long/2], mixed, -1, long / 2},
	} {
		way := weave.Steps(c.from, c.to)
		if n := weave.Moves(way); c.steps >= 0 && (len(way) != c.steps || n != c.most) || n > c.most {
			t.Errorf("%s: %d steps, %d Moves", c.what, len(way), n)
		}
		if row := weave.Merge(c.from, c.to); !slices.Equal(row, weave.Merge(row, c.to)) {
			t.Errorf("%s: Merge again is another one", c.what)
		}
	}
	const few = 1 << 13
	way := weave.Steps(up[:few], down[:few])
	if row, done := weave.Apply(up[:few], way); !done || len(row) != few || len(way) != 2*few {
		t.Errorf("others: %d after %d steps", len(row), len(way))
	}
	if row, done := weave.Apply(up[:few], weave.Steps(up[:few], down[long-few:])); !done || !slices.Equal(row, down[long-few:]) {
		t.Errorf("turned round: %d %v", len(row), done)
	}
}
