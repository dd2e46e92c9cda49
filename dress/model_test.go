package dress_test

import (
	"maps"
	"math"
	"math/rand"
	"slices"
	"strings"

	"scrim/dress"
	"scrim/props"
)

// The kinds and moves, by the numbers that the document gives them.
const (
	still, wait, enterFrom, enterTo, hold, leaveFrom, leaveTo = 0, 1, 2, 3, 4, 5, 6

	unmoved, away, back = 0, 1, 2
)

// marks has the classes of each kind, as the document lists them.
func marks(kind int) []string {
	return strings.Fields(map[int]string{
		wait:      "t-wait",
		enterFrom: "t-enter-from t-enter-active",
		enterTo:   "t-enter-active t-enter-to",
		hold:      "t-hold",
		leaveFrom: "t-leave-from t-leave-active",
		leaveTo:   "t-leave-active t-leave-to",
	}[kind])
}

// offsets returns numbers around 0, and around the limits of 32 and 64 bits.
func offsets() []int {
	return []int{
		0, 1, -1, 7, math.MinInt32, math.MinInt32 + 1, math.MaxInt32 - 1, math.MaxInt32,
		math.MinInt32 - 1, math.MaxInt32 + 1, 1 << 32, 1 << 40, math.MinInt, math.MaxInt,
	}
}

// looks returns looks with every kind, move and offset, wrong ones too.
func looks() []dress.Look {
	var all []dress.Look
	for _, kind := range []int{-1, still, wait, enterFrom, enterTo, hold, leaveFrom, leaveTo, 7, 8, math.MinInt, math.MaxInt} {
		for _, move := range []int{-1, unmoved, away, back, 3, 4, math.MinInt, math.MaxInt} {
			for _, dx := range offsets() {
				for _, dy := range offsets() {
					all = append(all, dress.Look{Kind: kind, Move: move, DX: dx, DY: dy})
				}
			}
		}
	}
	return all
}

// valid is May, spelt out independently of the program: it makes the valid looks of
// each kind and move, and tells whether l is one of them.
func valid(l dress.Look) bool {
	for kind := still; kind <= leaveTo; kind++ {
		if l == (dress.Look{Kind: kind}) {
			return true
		}
	}
	to := func(n int) int { return int(int32(n)) }
	return l == (dress.Look{Move: back}) || l == (dress.Look{Move: away, DX: to(l.DX), DY: to(l.DY)})
}

// kinds has the looks without a move that are valid.
func kinds() []dress.Look {
	var all []dress.Look
	for kind := still; kind <= leaveTo; kind++ {
		all = append(all, dress.Look{Kind: kind})
	}
	return all
}

// once is Clean, spelt out independently of the program.
func once(l []string) []string {
	var list []string
	for _, c := range l {
		if !slices.Contains(list, c) {
			list = append(list, c)
		}
	}
	return list
}

// ordered returns a Go map as pairs in the order of their names.
func ordered[V comparable](values map[string]V) props.Map[V] {
	var m props.Map[V]
	for _, name := range slices.Sorted(maps.Keys(values)) {
		m = append(m, props.Pair[V]{Name: name, Value: values[name]})
	}
	return m
}

// values returns pairs as a Go map, in which the last one of a name counts.
func values[V comparable](m props.Map[V]) map[string]V {
	all := map[string]V{}
	for _, p := range m {
		all[p.Name] = p.Value
	}
	return all
}

// put is Put, spelt out independently of the program.
func put(l dress.Look, o dress.Own) dress.Own {
	own := slices.Concat(o.Classes, marks(l.Kind))
	if l.Move != unmoved {
		own = append(own, "t-move")
	}
	attrs, styles := values(o.Attrs), values(o.Styles)
	if l.Kind >= hold && l.Kind <= leaveTo {
		attrs["t-ghost"] = ""
	}
	if l.Move == away {
		styles["t-dx"], styles["t-dy"] = l.DX, l.DY
	}
	return dress.Own{Classes: once(own), Attrs: ordered(attrs), Styles: ordered(styles)}
}

func reserved(name string) bool { return len(name) >= 2 && name[0] == 't' && name[1] == '-' }

// take is Take, spelt out independently of the program.
func take(o dress.Own) dress.Own {
	var own []string
	for _, c := range o.Classes {
		if !reserved(c) {
			own = append(own, c)
		}
	}
	attrs, styles := values(o.Attrs), values(o.Styles)
	maps.DeleteFunc(attrs, func(name, _ string) bool { return reserved(name) })
	maps.DeleteFunc(styles, func(name string, _ int) bool { return reserved(name) })
	return dress.Own{Classes: own, Attrs: ordered(attrs), Styles: ordered(styles)}
}

// same reports whether two nodes have exactly the same, in the same order.
func same(a, b dress.Own) bool {
	return slices.Equal(a.Classes, b.Classes) && slices.Equal(a.Attrs, b.Attrs) && slices.Equal(a.Styles, b.Styles)
}

// copied returns o in memory of its own.
func copied(o dress.Own) dress.Own {
	return dress.Own{Classes: slices.Clone(o.Classes), Attrs: slices.Clone(o.Attrs), Styles: slices.Clone(o.Styles)}
}

// plain and strange names; the strange ones are reserved, or nearly so, or are no names.
const (
	plain   = "a b on t t1 tt w dx ghost"
	strange = "t- t-ghost t-dx t-dy t-move t-wait t-hold t-enter-from t-enter-active t-enter-to t-leave-from t-leave-active t-leave-to t-x T-x -t-x"
)

// own returns what a node may have, with names out of a list; they may be repeated,
// and in any order.
func own(r *rand.Rand, names []string) dress.Own {
	var o dress.Own
	some := func() string { return names[r.Intn(len(names))] }
	for range r.Intn(6) {
		o.Classes = append(o.Classes, some())
	}
	for range r.Intn(6) {
		o.Attrs = append(o.Attrs, props.Pair[string]{Name: some(), Value: some()})
	}
	for range r.Intn(6) {
		o.Styles = append(o.Styles, props.Pair[int]{Name: some(), Value: r.Intn(9) - 4})
	}
	return o
}
