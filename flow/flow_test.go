package flow_test

import (
	"math"
	"math/rand"
	"slices"
	"testing"

	"scrim/flow"
)

// boxes returns sizes, by their numbers.
func boxes(l ...int) []flow.Size {
	var all []flow.Size
	for i := 0; i < len(l); i += 2 {
		all = append(all, flow.Size{W: l[i], H: l[i+1]})
	}
	return all
}

// at returns points, by their numbers.
func at(l ...int) []flow.Point {
	var all []flow.Point
	for i := 0; i < len(l); i += 2 {
		all = append(all, flow.Point{X: l[i], Y: l[i+1]})
	}
	return all
}

// expect holds what was returned against what should be.
func expect(t *testing.T, what string, args []int, l []flow.Size, got, want []flow.Point, whole, all flow.Size) {
	t.Helper()
	if !slices.Equal(got, want) || whole != all {
		t.Fatalf("%s%v of %v is %v %v, wanted %v %v", what, args, l, got, whole, want, all)
	}
}

// agree holds all functions against the model.
func agree(t *testing.T, cols, width, gap int, l []flow.Size) {
	t.Helper()
	got, whole := flow.Stack(gap, l...)
	want, all := stacked(gap, l)
	expect(t, "Stack", []int{gap}, l, got, want, whole, all)
	got, whole = flow.Wrap(width, gap, l...)
	want, all = wrapped(width, gap, l)
	expect(t, "Wrap", []int{width, gap}, l, got, want, whole, all)
	got, whole = flow.Grid(cols, width, gap, l...)
	want, all = grid(cols, width, gap, l)
	expect(t, "Grid", []int{cols, width, gap}, l, got, want, whole, all)
}

// P14.1: boxes below each other.
func TestStack(t *testing.T) {
	for _, c := range []struct {
		gap  int
		l    []flow.Size
		want []flow.Point
		all  flow.Size
	}{
		{1, boxes(4, 2, 5, 1, 3, 3), at(0, 0, 0, 3, 0, 5), flow.Size{W: 5, H: 8}},
		{0, boxes(4, 2, 5, 1, 3, 3), at(0, 0, 0, 2, 0, 3), flow.Size{W: 5, H: 6}},
		{7, nil, nil, flow.Size{}}, {7, boxes(3, 4), at(0, 0), flow.Size{W: 3, H: 4}}, {7, boxes(0, 0), at(0, 0), flow.Size{}},
		{2, boxes(1, 0, 0, 0, 0, 5), at(0, 0, 0, 2, 0, 4), flow.Size{W: 1, H: 9}},
		{2, boxes(1, 5, 2, 0), at(0, 0, 0, 7), flow.Size{W: 2, H: 7}},
		{-3, boxes(-4, -2, -1, 2, 5, -9), at(0, 0, 0, 0, 0, 2), flow.Size{W: 5, H: 2}},
		{1, boxes(most+5, most-2, 1, 1, 2, 3), at(0, 0, 0, most-1, 0, most), flow.Size{W: most, H: most}},
		{math.MaxInt, boxes(1, 1, math.MaxInt, 1), at(0, 0, 0, most), flow.Size{W: most, H: most}},
		{math.MinInt, boxes(math.MinInt, math.MinInt, 1, math.MaxInt), at(0, 0, 0, 0), flow.Size{W: 1, H: most}},
	} {
		got, whole := flow.Stack(c.gap, c.l...)
		expect(t, "Stack", []int{c.gap}, c.l, got, c.want, whole, c.all)
		agree(t, 2, 5, c.gap, c.l)
	}
}

// P14.1: the document's example, and the edges of Wrap.
func TestWrap(t *testing.T) {
	for _, c := range []struct {
		width, gap int
		l          []flow.Size
		want       []flow.Point
		all        flow.Size
	}{
		{10, 1, boxes(4, 2, 5, 1, 3, 3), at(0, 0, 5, 0, 0, 3), flow.Size{W: 10, H: 6}},
		{9, 1, boxes(4, 2, 5, 1, 3, 3), at(0, 0, 0, 3, 6, 3), flow.Size{W: 9, H: 6}},
		{14, 1, boxes(4, 2, 5, 1, 3, 3), at(0, 0, 5, 0, 11, 0), flow.Size{W: 14, H: 3}},
		{13, 1, boxes(4, 2, 5, 1, 3, 3), at(0, 0, 5, 0, 0, 3), flow.Size{W: 10, H: 6}},
		{3, 0, boxes(4, 2, 3, 3), at(0, 0, 0, 2), flow.Size{W: 4, H: 5}},
		{5, 0, boxes(3, 1, 9, 1, 2, 1), at(0, 0, 0, 1, 0, 2), flow.Size{W: 9, H: 3}},
		{5, 2, boxes(5, 3, 0, 1), at(0, 0, 0, 5), flow.Size{W: 5, H: 6}},
		{5, 0, boxes(5, 3, 0, 4, 0, 1, 1, 1), at(0, 0, 5, 0, 5, 0, 0, 4), flow.Size{W: 5, H: 5}},
		{0, 0, boxes(0, 3, 0, 1, 1, 1, 0, 1), at(0, 0, 0, 0, 0, 3, 0, 4), flow.Size{W: 1, H: 5}},
		{8, 1, boxes(3, 5, 3, 1, 3, 0, 3, 0, 1, 1), at(0, 0, 4, 0, 0, 6, 4, 6, 0, 7), flow.Size{W: 7, H: 8}},
		{10, 1, nil, nil, flow.Size{}}, {-1, 5, boxes(2, 2), at(0, 0), flow.Size{W: 2, H: 2}},
		{-7, -1, boxes(-2, 2, -3, -4, 1, 1), at(0, 0, 0, 0, 0, 2), flow.Size{W: 1, H: 3}},
		{most, most, boxes(1, 1, most, 2, 0, 3), at(0, 0, most, 0, most, 0), flow.Size{W: most, H: 3}},
		{most - 1, most, boxes(1, 1, 0, 2), at(0, 0, 0, most), flow.Size{W: 1, H: most}},
		{math.MaxInt, 1, boxes(math.MaxInt, 1, math.MaxInt, math.MaxInt), at(0, 0, most, 0), flow.Size{W: most, H: most}},
		{math.MinInt, math.MinInt, boxes(math.MaxInt, math.MaxInt, 1, 1), at(0, 0, 0, most), flow.Size{W: most, H: most}},
	} {
		got, whole := flow.Wrap(c.width, c.gap, c.l...)
		expect(t, "Wrap", []int{c.width, c.gap}, c.l, got, c.want, whole, c.all)
		agree(t, 3, c.width, c.gap, c.l)
	}
}

// P14.1: boxes in columns, however wide they are themselves.
func TestGrid(t *testing.T) {
	for _, c := range []struct {
		cols, col, gap int
		l              []flow.Size
		want           []flow.Point
		all            flow.Size
	}{
		{2, 6, 1, boxes(4, 2, 5, 1, 3, 3), at(0, 0, 7, 0, 0, 3), flow.Size{W: 13, H: 6}},
		{2, 6, 1, boxes(40, 1, -5, 2, 3, 3, 9, 1, 1, 0), at(0, 0, 7, 0, 0, 3, 7, 3, 0, 7), flow.Size{W: 13, H: 7}},
		{3, 6, 1, boxes(4, 2, 5, 1), at(0, 0, 7, 0), flow.Size{W: 13, H: 2}}, {3, 6, 1, boxes(4, 2), at(0, 0), flow.Size{W: 6, H: 2}},
		{3, 6, 1, boxes(1, 1, 1, 1, 1, 1, 1, 1), at(0, 0, 7, 0, 14, 0, 0, 2), flow.Size{W: 20, H: 3}},
		{3, 6, 1, nil, nil, flow.Size{}}, {1, 4, 2, boxes(9, 1, 9, 1), at(0, 0, 0, 3), flow.Size{W: 4, H: 4}},
		{0, 4, 2, boxes(9, 1, 9, 1), at(0, 0, 0, 3), flow.Size{W: 4, H: 4}}, {math.MinInt, 4, 2, boxes(9, 1, 9, 1), at(0, 0, 0, 3), flow.Size{W: 4, H: 4}},
		{2, 0, 3, boxes(9, 1, 9, 1), at(0, 0, 3, 0), flow.Size{W: 3, H: 1}}, {2, 0, 0, boxes(9, 1, 9, 2, 9, 1), at(0, 0, 0, 0, 0, 2), flow.Size{H: 3}},
		{2, -5, -5, boxes(9, -1, 9, 2, 9, 1), at(0, 0, 0, 0, 0, 2), flow.Size{H: 3}},
		{2, most, 1, boxes(1, 1, 1, most, 1, 1), at(0, 0, most, 0, 0, most), flow.Size{W: most, H: most}},
		{3, 1, most - 1, boxes(1, 1, 1, 1, 1, 1), at(0, 0, most, 0, most, 0), flow.Size{W: most, H: 1}},
		{2, math.MaxInt, math.MinInt, boxes(0, 0, 0, 0, 0, math.MaxInt), at(0, 0, most, 0, 0, 0), flow.Size{W: most, H: most}},
	} {
		got, whole := flow.Grid(c.cols, c.col, c.gap, c.l...)
		expect(t, "Grid", []int{c.cols, c.col, c.gap}, c.l, got, c.want, whole, c.all)
		agree(t, c.cols, c.col, c.gap, c.l)
	}
}

// P14.1: there are 64 columns at most.
func TestMostColumns(t *testing.T) {
	l := slices.Repeat(boxes(1, 2), 130)
	for _, cols := range []int{63, 64, 65, 66, 129, 1 << 40, math.MaxInt} {
		used := min(cols, 64)
		points, whole := flow.Grid(cols, 3, 1, l...)
		for i, p := range points {
			if want := (flow.Point{X: i % used * 4, Y: i / used * 3}); p != want {
				t.Fatalf("%d of %d columns is at %v, wanted %v", i, cols, p, want)
			}
		}
		if want := (flow.Size{W: used*4 - 1, H: 8}); len(points) != 130 || whole != want {
			t.Errorf("%d columns: %d boxes, %v, wanted %v", cols, len(points), whole, want)
		}
		agree(t, cols, 3, 1, l)
	}
}

// everyList passes all lists of up to n boxes of some sizes.
func everyList(n int, sizes []flow.Size, pass func([]flow.Size)) {
	var grow func(l []flow.Size)
	grow = func(l []flow.Size) {
		pass(l)
		for _, box := range sizes {
			if len(l) < n {
				grow(append(slices.Clone(l), box))
			}
		}
	}
	grow(nil)
}

// P14.1: every list of up to four small boxes, in every small width.
func TestAllShortLists(t *testing.T) {
	everyList(4, boxes(-1, 2, 0, 1, 1, 0, 1, 2, 2, -1, 3, 1), func(l []flow.Size) {
		for gap := -1; gap <= 2; gap++ {
			for width := -1; width <= 7; width++ {
				agree(t, width-1, width, gap, l)
			}
		}
	})
}

// some returns boxes of which the numbers are chosen by number.
func some(r *rand.Rand, number func() int) []flow.Size {
	l := make([]flow.Size, r.Intn(30))
	for i := range l {
		l[i] = flow.Size{W: number(), H: number()}
	}
	return l
}

// P14.1 and P1: longer lists, with small numbers and with ones around the limits.
func TestAgainstModel(t *testing.T) {
	r := rand.New(rand.NewSource(14))
	edges := []int{
		math.MinInt, -1 << 40, math.MinInt32, -1, 0, 1, 2, 9, most / 2, most/2 + 1, most - 9, most - 1, most, most + 1, 1 << 40, math.MaxInt - 1, math.MaxInt,
	}
	for range 20000 {
		small := func() int { return r.Intn(14) - 2 }
		agree(t, r.Intn(70)-2, r.Intn(60)-2, r.Intn(6)-2, some(r, small))
		wide := func() int { return edges[r.Intn(len(edges))] }
		agree(t, r.Intn(10), wide(), wide(), some(r, wide))
		mixed := func() int { return []int{small(), small(), small(), wide()}[r.Intn(4)] }
		agree(t, wide(), mixed(), mixed(), some(r, mixed))
	}
}

// meet reports whether two boxes at their points have a point in common.
func meet(p flow.Point, a flow.Size, q flow.Point, b flow.Size) bool {
	return max(p.X, q.X) < min(p.X+a.W, q.X+b.W) && max(p.Y, q.Y) < min(p.Y+a.H, q.Y+b.H)
}

// apart fails if two boxes meet, or one is not in the whole.
func apart(t *testing.T, what string, points []flow.Point, l []flow.Size, whole flow.Size) {
	t.Helper()
	for i, p := range points {
		if p.X < 0 || p.Y < 0 || p.X+max(l[i].W, 0) > whole.W || p.Y+max(l[i].H, 0) > whole.H {
			t.Fatalf("%s of %v: %d at %v is not in %v", what, l, i, p, whole)
		}
		for j, q := range points[:i] {
			if meet(p, l[i], q, l[j]) {
				t.Fatalf("%s of %v: %d at %v and %d at %v meet", what, l, i, p, j, q)
			}
		}
	}
}

// P14.2: no two boxes of a Stack or a Wrap have a common point, and none of a Wrap
// is beyond its width, but for one that begins a row.
func TestApart(t *testing.T) {
	r := rand.New(rand.NewSource(15))
	for range 10000 {
		l := some(r, func() int { return r.Intn(14) - 2 })
		gap, width := r.Intn(6)-2, r.Intn(40)-2
		points, whole := flow.Stack(gap, l...)
		apart(t, "Stack", points, l, whole)
		points, whole = flow.Wrap(width, gap, l...)
		apart(t, "Wrap", points, l, whole)
		for i, p := range points {
			if p.X+l[i].W > max(width, 0) && p.X != 0 {
				t.Fatalf("Wrap %d %d of %v: %d at %v is too wide", width, gap, l, i, p)
			}
		}
	}
}

// P1: nothing that is passed is changed, nor its spare capacity, and no memory is
// shared with it or with another result.
func TestMemory(t *testing.T) {
	l := append(make([]flow.Size, 0, 6), boxes(-4, 2, 5, -1, 3, 3)...)
	stack, _ := flow.Stack(1, l...)
	wrap, _ := flow.Wrap(6, 1, l...)
	columns, _ := flow.Grid(2, 6, 1, l...)
	if !slices.Equal(l[:6], boxes(-4, 2, 5, -1, 3, 3, 0, 0, 0, 0, 0, 0)) {
		t.Errorf("what was passed is %v", l[:6])
	}
	clear(l[:6])
	for _, f := range []func(...flow.Size) ([]flow.Point, flow.Size){
		func(l ...flow.Size) ([]flow.Point, flow.Size) { return flow.Stack(1, l...) },
		func(l ...flow.Size) ([]flow.Point, flow.Size) { return flow.Wrap(6, 1, l...) },
		func(l ...flow.Size) ([]flow.Point, flow.Size) { return flow.Grid(2, 6, 1, l...) },
	} {
		again, _ := f(boxes(-4, 2, 5, -1, 3, 3)...)
		clear(again[:cap(again)])
	}
	if !slices.Equal(stack, at(0, 0, 0, 3, 0, 4)) || !slices.Equal(wrap, at(0, 0, 1, 0, 0, 3)) || !slices.Equal(columns, at(0, 0, 7, 0, 0, 3)) {
		t.Errorf("a change elsewhere made %v, %v and %v", stack, wrap, columns)
	}
}

// P1: long lists end soon.
func TestLongLists(t *testing.T) {
	const long = 1 << 17
	l := slices.Repeat(boxes(2, 3), long)
	if points, whole := flow.Stack(1, l...); points[long-1] != (flow.Point{Y: 4*long - 4}) || whole != (flow.Size{W: 2, H: 4*long - 1}) {
		t.Errorf("Stack is %v", whole)
	}
	if points, whole := flow.Wrap(11, 1, l...); points[long-1] != (flow.Point{X: 9, Y: long - 4}) || whole != (flow.Size{W: 11, H: long - 1}) {
		t.Errorf("Wrap is %v, to %v", whole, points[long-1])
	}
	if points, whole := flow.Grid(64, 9, 1, l...); points[long-1] != (flow.Point{X: 630, Y: long/16 - 4}) || whole != (flow.Size{W: 639, H: long/16 - 1}) {
		t.Errorf("Grid is %v, to %v", whole, points[long-1])
	}
}
