package rect

import (
	"cmp"
	"slices"
)

// Entry is where something is.
type Entry struct {
	ID   int
	Rect Rect
}

// Snap is where everything is, in strictly ascending order of IDs.
type Snap []Entry

// SnapOf: the Snap of entries. They are turned round first, so that the last one
// of an ID is the one that is kept.
func SnapOf(l ...Entry) Snap {
	s := slices.Clone(l)
	slices.Reverse(s)
	slices.SortStableFunc(s, func(a, b Entry) int { return cmp.Compare(a.ID, b.ID) })
	return slices.CompactFunc(s, func(a, b Entry) bool { return a.ID == b.ID })
}

// Get: the rectangle of an ID. The search is from the end on, for s may have the
// ID several times.
func (s Snap) Get(id int) (Rect, bool) {
	for _, e := range slices.Backward(s) {
		if e.ID == id {
			return e.Rect, true
		}
	}
	return Rect{}, false
}

// Same reports whether both are equal.
func (s Snap) Same(o Snap) bool {
	return slices.Equal(SnapOf(s...), SnapOf(o...))
}

// Moved: the IDs in both that are at another point in o, in ascending order.
func (s Snap) Moved(o Snap) []int {
	rects := map[int]Rect{}
	for _, e := range o {
		rects[e.ID] = e.Rect
	}
	return s.ids(func(e Entry) bool {
		r, there := rects[e.ID]
		return there && (r.X != e.Rect.X || r.Y != e.Rect.Y)
	})
}

// Hit: the IDs of the rectangles in which a point is, in ascending order.
func (s Snap) Hit(x, y int) []int {
	return s.ids(func(e Entry) bool { return e.Rect.Has(x, y) })
}

// ids returns the IDs of the entries that match, in ascending order. All entries
// have to be brought into order before they are asked, for a later one of an ID
// counts instead of an earlier one.
func (s Snap) ids(match func(Entry) bool) []int {
	var l []int
	for _, e := range SnapOf(s...) {
		if match(e) {
			l = append(l, e.ID)
		}
	}
	return l
}
