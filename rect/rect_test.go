package rect_test

import (
	"math"
	"testing"

	"scrim/rect"
)

const most, least = math.MaxInt32, math.MinInt32

// edges returns numbers around the limits of 32 and of 64 bits.
func edges() []int {
	return []int{
		math.MinInt, math.MinInt + 1, -1 << 40, least - 1, least, least + 1, -7, -1,
		0, 1, 2, 9, most - 1, most, most + 1, 1 << 40, math.MaxInt - 1, math.MaxInt,
	}
}

// limited is x within 32 bits. The sum of two such numbers fits into 64 bits.
func limited(x int) int {
	switch {
	case x < least:
		return least
	case x > most:
		return most
	}
	return x
}

func sum(a, b int) int        { return limited(limited(a) + limited(b)) }
func difference(a, b int) int { return limited(limited(a) - limited(b)) }

// P13.1 and P1: Right, Bottom, At and Offset, for any numbers.
func TestSums(t *testing.T) {
	for i, a := range edges() {
		for j, b := range edges() {
			r := rect.Rect{X: a, Y: b, W: j, H: -i}
			if right, bottom := r.Right(), r.Bottom(); right != sum(a, j) || bottom != sum(b, -i) {
				t.Errorf("Right and Bottom of %v are %d %d", r, right, bottom)
			}
			r = rect.Rect{X: j, Y: i, W: a, H: b}
			if right, bottom := r.Right(), r.Bottom(); right != sum(j, a) || bottom != sum(i, b) {
				t.Errorf("Right and Bottom of %v are %d %d", r, right, bottom)
			}
			r = rect.Rect{X: a, Y: b, W: math.MaxInt - i, H: math.MinInt + j}
			if got, want := r.At(b, a), (rect.Rect{X: sum(a, b), Y: sum(b, a), W: r.W, H: r.H}); got != want {
				t.Errorf("%v at %d %d is %v, wanted %v", r, b, a, got, want)
			}
			x, y := rect.Offset(r, rect.Rect{X: b, Y: 5, W: 9, H: 9})
			if x != difference(a, b) || y != difference(b, 5) {
				t.Errorf("Offset of %v from %d 5 is %d %d", r, b, x, y)
			}
			x, y = rect.Offset(rect.Rect{X: 5, Y: a}, r)
			if x != difference(5, a) || y != difference(a, b) {
				t.Errorf("Offset of 5 %d from %v is %d %d", a, r, x, y)
			}
		}
	}
}

// P13.1: the document's example, and numbers that are easily taken for each other.
func TestExamples(t *testing.T) {
	if x, y := rect.Offset(rect.Rect{X: 5, Y: 5, W: 1, H: 2}, rect.Rect{X: 2, Y: 9, W: 3, H: 4}); x != 3 || y != -4 {
		t.Errorf("Offset is %d %d", x, y)
	}
	r := rect.Rect{X: 1, Y: 2, W: 10, H: 20}
	if r.Right() != 11 || r.Bottom() != 22 {
		t.Errorf("Right and Bottom are %d %d", r.Right(), r.Bottom())
	}
	if got := r.At(-3, 4); got != (rect.Rect{X: -2, Y: 6, W: 10, H: 20}) {
		t.Errorf("At is %v", got)
	}
	if got := r.At(0, 0); got != r {
		t.Errorf("not moved: %v", got)
	}
}

// points of a rectangle among those from -4 to 8, spelt out: its columns and rows
// are counted.
func points(r rect.Rect) map[[2]int]bool {
	all := map[[2]int]bool{}
	for w := range max(r.W, 0) {
		for h := range max(r.H, 0) {
			all[[2]int{r.X + w, r.Y + h}] = true
		}
	}
	return all
}

// small returns all rectangles from 0 to 2 in each coordinate and from -1 to 3 in
// each extent.
func small() []rect.Rect {
	var l []rect.Rect
	for i := range 3 * 3 * 5 * 5 {
		l = append(l, rect.Rect{X: i % 3, Y: i / 3 % 3, W: i/9%5 - 1, H: i/45 - 1})
	}
	return l
}

// P13.1: Has, for every point near every small rectangle.
func TestHas(t *testing.T) {
	for _, r := range small() {
		all := points(r)
		for x := -4; x <= 8; x++ {
			for y := -4; y <= 8; y++ {
				if got := r.Has(x, y); got != all[[2]int{x, y}] {
					t.Fatalf("%v has %d %d: %v", r, x, y, got)
				}
			}
		}
	}
}

// P13.1: Over, for every two small rectangles: it is not empty unless it is zero,
// and has exactly the points that both have.
func TestOver(t *testing.T) {
	for _, a := range small() {
		for _, b := range small() {
			both := points(a)
			other := points(b)
			for p := range both {
				if !other[p] {
					delete(both, p)
				}
			}
			got := a.Over(b)
			if zero := got == (rect.Rect{}); zero != (len(both) == 0) {
				t.Fatalf("%v over %v is %v", a, b, got)
			}
			has := points(got)
			for p := range both {
				if !has[p] {
					t.Fatalf("%v over %v is %v, without %v", a, b, got, p)
				}
			}
			if len(has) != len(both) || got != b.Over(a) {
				t.Fatalf("%v over %v is %v, and %v the other way round", a, b, got, b.Over(a))
			}
		}
	}
}

// within is Has, spelt out along one axis.
func within(at, extent, p int) bool { return at <= p && p < sum(at, extent) }

// common is Over, spelt out along one axis; it reports false if there is nothing.
func common(a, wide, b, high int) (int, int, bool) {
	at, end := a, sum(a, wide)
	if b > at {
		at = b
	}
	if e := sum(b, high); e < end {
		end = e
	}
	return at, difference(end, at), at < end
}

// P13.1 and P1: Has and Over, for numbers of any size, along either axis.
func TestAnyNumbers(t *testing.T) {
	for _, a := range edges() {
		for _, b := range edges() {
			across, along := rect.Rect{X: a, Y: 3, W: b, H: 2}, rect.Rect{X: 3, Y: a, W: 2, H: b}
			for _, c := range edges() {
				if want := within(a, b, c); across.Has(c, 4) != want || along.Has(4, c) != want {
					t.Errorf("%v has %d: not %v", across, c, want)
				}
				for _, d := range edges() {
					at, extent, there := common(a, b, c, d)
					wide, high := rect.Rect{X: at, Y: 4, W: extent, H: 1}, rect.Rect{X: 4, Y: at, W: 1, H: extent}
					if !there {
						wide, high = rect.Rect{}, rect.Rect{}
					}
					if got := across.Over(rect.Rect{X: c, Y: 4, W: d, H: 9}); got != wide {
						t.Fatalf("%v over %d, %d wide is %v, wanted %v", across, c, d, got, wide)
					}
					if got := along.Over(rect.Rect{X: 4, Y: c, W: 9, H: d}); got != high {
						t.Fatalf("%v over %d, %d high is %v, wanted %v", along, c, d, got, high)
					}
				}
			}
		}
	}
}

// P13.1: a rectangle that reaches the limit of 32 bits loses what is beyond.
func TestLimit(t *testing.T) {
	last := rect.Rect{X: most - 2, Y: most, W: 9, H: 9}
	if last.Right() != most || last.Has(most-1, most) || last.Over(last) != (rect.Rect{}) {
		t.Errorf("what begins at the limit has points")
	}
	wide := rect.Rect{X: most - 2, Y: 0, W: 9, H: 1}
	if got := wide.Over(wide); got != (rect.Rect{X: most - 2, Y: 0, W: 2, H: 1}) || !wide.Has(most-1, 0) || wide.Has(most, 0) {
		t.Errorf("what reaches the limit: %v", got)
	}
	whole := rect.Rect{X: least, Y: least, W: most, H: most}
	if got := whole.Over(whole); got != whole || !whole.Has(least, -2) || whole.Has(-1, least) {
		t.Errorf("from the least number on: %v", got)
	}
}

// P13.2: what is moved by the Offset from its previous position is there again.
func TestBack(t *testing.T) {
	for _, x := range []int{-1 << 30, -5, 0, 1, 7, 1<<30 - 1} {
		for _, y := range []int{-1 << 30, -3, 0, 2, 8, 1<<30 - 1} {
			old, new := rect.Rect{X: x, Y: y, W: 3, H: 4}, rect.Rect{X: y, Y: -x, W: 5, H: 6}
			if got, want := new.At(rect.Offset(old, new)), (rect.Rect{X: x, Y: y, W: 5, H: 6}); got != want {
				t.Errorf("%v from %v is %v", new, old, got)
			}
		}
	}
}
