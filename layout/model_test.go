package layout_test

import (
	"math"
	"slices"

	"scrim/arena"
	"scrim/flow"
	"scrim/rect"
	"scrim/still"
)

const most = math.MaxInt32

// limited is a number within 32 bits that is not negative.
func limited(x int) int { return max(0, min(x, most)) }

// sum adds numbers that are not negative, one after the other.
func sum(l ...int) int {
	all := 0
	for _, x := range l {
		all = limited(all + limited(x))
	}
	return all
}

// said is what the styles of a node say, spelt out independently of the program,
// as is everything here: the last pair of that name.
func said(t still.Tree, name string) (int, bool) {
	for _, p := range slices.Backward(t.Styles) {
		if p.Name == name {
			return limited(p.Value), true
		}
	}
	return 0, false
}

// number is what is said, or 0.
func number(t still.Tree, name string) int {
	n, _ := said(t, name)
	return n
}

func natural(t still.Tree) int {
	if t.Kind == arena.Text {
		return len(t.Text)
	}
	if w, there := said(t, "w"); there {
		return w
	}
	greatest := 0
	for _, kid := range t.Kids {
		greatest = max(greatest, natural(kid))
	}
	return sum(greatest, number(t, "pad"), number(t, "pad"))
}

// columns is how many columns there are.
func columns(t still.Tree) int { return max(1, min(number(t, "cols"), 64)) }

// widths are that of an Element, its inner one, and that of its columns.
func widths(t still.Tree, width int) (own, inner, col int) {
	own = limited(width)
	if w, there := said(t, "w"); there {
		own = w
	}
	inner = max(0, own-2*number(t, "pad"))
	gaps := min((columns(t)-1)*number(t, "gap"), most)
	return own, inner, max(0, inner-gaps) / columns(t)
}

// laid returns the sizes of the kids of an Element, where they are placed in it,
// and how high all of them are together.
func laid(t still.Tree, width int) ([]flow.Size, []flow.Point, int) {
	_, inner, col := widths(t, width)
	gap, way := number(t, "gap"), number(t, "flow")
	var sizes []flow.Size
	var points []flow.Point
	x, y, below := 0, 0, 0
	for i, kid := range t.Kids {
		s, wide := size(kid, inner), 0
		if way == 1 {
			s = size(kid, natural(kid))
			wide = s.W
		}
		if way == 2 {
			s = size(kid, col)
			wide = col
		}
		begins := way != 1 && way != 2 || way == 1 && sum(x, wide) > inner || way == 2 && i%columns(t) == 0
		if i > 0 && begins {
			x, y = 0, sum(below, gap)
		}
		sizes, points = append(sizes, s), append(points, flow.Point{X: x, Y: y})
		x, below = sum(x, wide, gap), max(below, sum(y, s.H))
	}
	return sizes, points, below
}

func size(t still.Tree, width int) flow.Size {
	if t.Kind == arena.Text {
		return flow.Size{W: len(t.Text), H: 1}
	}
	own, _, _ := widths(t, width)
	if h, there := said(t, "h"); there {
		return flow.Size{W: own, H: h}
	}
	_, _, high := laid(t, width)
	return flow.Size{W: own, H: sum(high, number(t, "pad"), number(t, "pad"))}
}

// positions passes the position of t, at a point, and of everything below it.
func positions(t still.Tree, width, x, y int, pass func(int, rect.Rect)) {
	s := size(t, width)
	pass(t.ID, rect.Rect{X: x, Y: y, W: s.W, H: s.H})
	if t.Kind == arena.Text {
		return
	}
	sizes, points, _ := laid(t, width)
	pad := number(t, "pad")
	for i, kid := range t.Kids {
		positions(kid, sizes[i].W, sum(x, pad, points[i].X), sum(y, pad, points[i].Y), pass)
	}
}

// snap is what Of must return.
func snap(t still.Tree, width int) rect.Snap {
	last := map[int]rect.Rect{}
	positions(t, width, 0, 0, func(id int, r rect.Rect) { last[id] = r })
	var s rect.Snap
	for id, r := range last {
		s = append(s, rect.Entry{ID: id, Rect: r})
	}
	slices.SortFunc(s, func(a, b rect.Entry) int { return a.ID - b.ID })
	return s
}
