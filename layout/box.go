package layout

import (
	"scrim/arena"
	"scrim/flow"
	"scrim/rect"
	"scrim/sat"
	"scrim/still"
)

// Ways of arranging kids, as the style flow says; any other number means a stack
// as well.
const (
	stack = iota
	rows
	columns
)

// none stands for a width or a height of which the styles say nothing. No style
// counts as this, for those that are negative count as 0.
const none = -1

// box is a node: the styles that matter, as they count, and what they lead to. The
// results are kept with the node, for to find them anew at every level of a deep
// tree would take long.
type box struct {
	id                        int
	w, h, pad, gap, cols, way int
	natural                   int
	size                      flow.Size
	places                    []flow.Point
	kids                      []*box
}

// boxOf returns a node with everything below it, of which the natural widths are
// known. A Text is like an Element without kids that has a fixed size.
func boxOf(t still.Tree) *box {
	if t.Kind == arena.Text {
		wide := sat.Sat(len(t.Text))
		return &box{id: t.ID, w: wide, h: 1, natural: wide}
	}
	b := &box{
		id: t.ID, w: style(t, "w", none), h: style(t, "h", none),
		pad: style(t, "pad", 0), gap: style(t, "gap", 0),
		cols: sat.Clip(style(t, "cols", 0), 1, 64), way: style(t, "flow", stack),
	}
	widest := 0
	for _, kid := range t.Kids {
		k := boxOf(kid)
		b.kids = append(b.kids, k)
		widest = max(widest, k.natural)
	}
	b.natural = either(b.w, sat.Add(widest, sat.Mul(2, b.pad)))
	return b
}

// style returns a style as it counts, or what it is if it is missing. A negative
// flow means the same as 0, so it need not be told from the other styles.
func style(t still.Tree, name string, missing int) int {
	n, there := t.Styles.Get(name)
	if !there {
		return missing
	}
	return length(n)
}

// length: a style or a width as it counts.
func length(n int) int { return sat.Clip(n, 0, sat.Most) }

// either returns what the styles say, or something else if they say nothing.
func either(said, other int) int {
	if said == none {
		return other
	}
	return said
}

// fit finds the sizes of b, for a width, and of everything below it, and where the
// kids are placed; it returns b.
func (b *box) fit(width int) *box {
	b.size.W = either(b.w, length(width))
	inner := max(0, sat.Sub(sat.Sub(b.size.W, b.pad), b.pad))
	col := max(0, sat.Div(sat.Sub(inner, sat.Mul(b.cols-1, b.gap)), b.cols))
	var sizes []flow.Size
	for _, kid := range b.kids {
		switch b.way {
		case rows:
			kid.fit(kid.natural)
		case columns:
			kid.fit(col)
		default:
			kid.fit(inner)
		}
		sizes = append(sizes, kid.size)
	}
	whole := b.arrange(inner, col, sizes)
	b.size.H = either(b.h, sat.Add(whole.H, sat.Mul(2, b.pad)))
	return b
}

// arrange places the kids, and returns the size of the whole.
func (b *box) arrange(inner, col int, sizes []flow.Size) (whole flow.Size) {
	switch b.way {
	case rows:
		b.places, whole = flow.Wrap(inner, b.gap, sizes...)
	case columns:
		b.places, whole = flow.Grid(b.cols, col, b.gap, sizes...)
	default:
		b.places, whole = flow.Stack(b.gap, sizes...)
	}
	return whole
}

// entries appends the positions of b, which is at the point of the Rect, and of
// everything below it to l.
func (b *box) entries(at rect.Rect, l []rect.Entry) []rect.Entry {
	at.W, at.H = b.size.W, b.size.H
	l = append(l, rect.Entry{ID: b.id, Rect: at})
	inside := at.At(b.pad, b.pad)
	for i, kid := range b.kids {
		l = kid.entries(inside.At(b.places[i].X, b.places[i].Y), l)
	}
	return l
}
