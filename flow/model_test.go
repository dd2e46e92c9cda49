package flow_test

import (
	"math"

	"scrim/flow"
)

const most = math.MaxInt32

// counted is a width, a height or a gap as it counts.
func counted(x int) int { return max(0, min(x, most)) }

// sum adds numbers that count, one after the other.
func sum(l ...int) int {
	all := 0
	for _, x := range l {
		all = min(all+counted(x), most)
	}
	return all
}

// stacked is Stack, spelt out independently of the program, as are the next ones.
func stacked(gap int, l []flow.Size) ([]flow.Point, flow.Size) {
	var points []flow.Point
	var whole flow.Size
	for i, box := range l {
		var p flow.Point
		if i > 0 {
			p.Y = sum(points[i-1].Y, l[i-1].H, gap)
		}
		points = append(points, p)
		whole = flow.Size{W: max(whole.W, counted(box.W)), H: sum(p.Y, box.H)}
	}
	return points, whole
}

// row is a part of the list, of which the points of the boxes have an X.
type row struct{ boxes, xs []int }

// filled are the rows of Wrap.
func filled(width, gap int, l []flow.Size) []row {
	var rows []row
	for i, box := range l {
		if i > 0 {
			here := &rows[len(rows)-1]
			x := sum(here.xs[len(here.xs)-1], l[i-1].W, gap)
			if sum(x, box.W) <= counted(width) {
				*here = row{append(here.boxes, i), append(here.xs, x)}
				continue
			}
		}
		rows = append(rows, row{[]int{i}, []int{0}})
	}
	return rows
}

// columns are the rows of Grid.
func columns(cols, col, gap int, l []flow.Size) []row {
	cols = max(1, min(cols, 64))
	var rows []row
	for i := range l {
		if i%cols == 0 {
			rows = append(rows, row{})
		}
		here := &rows[len(rows)-1]
		x := 0
		for range i % cols {
			x = sum(x, col, gap)
		}
		*here = row{append(here.boxes, i), append(here.xs, x)}
	}
	return rows
}

// below places rows below each other; it tells the height of the whole too.
func below(gap int, l []flow.Size, rows []row) ([]flow.Point, int) {
	var points []flow.Point
	y, height := 0, 0
	for i, r := range rows {
		if i > 0 {
			y = sum(y, height, gap)
		}
		height = 0
		for n, box := range r.boxes {
			height = max(height, counted(l[box].H))
			points = append(points, flow.Point{X: r.xs[n], Y: y})
		}
	}
	return points, sum(y, height)
}

// wrapped is Wrap.
func wrapped(width, gap int, l []flow.Size) ([]flow.Point, flow.Size) {
	points, height := below(gap, l, filled(width, gap, l))
	wide := 0
	for i, p := range points {
		wide = max(wide, sum(p.X, l[i].W))
	}
	return points, flow.Size{W: wide, H: height}
}

// grid is Grid.
func grid(cols, col, gap int, l []flow.Size) ([]flow.Point, flow.Size) {
	points, height := below(gap, l, columns(cols, col, gap, l))
	last, wide := -1, 0
	for _, p := range points {
		last = max(last, p.X)
	}
	if last >= 0 {
		wide = sum(last, col)
	}
	return points, flow.Size{W: wide, H: height}
}
