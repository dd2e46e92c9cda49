package patch_test

import (
	"fmt"
	"maps"
	"math"
	"math/rand"
	"slices"
	"strings"

	"scrim/api"
	"scrim/arena"
	"scrim/dress"
	"scrim/props"
	"scrim/trail"
)

// all is every node as a text, loose ones included, and what comes next.
func all(d *arena.Dom) string {
	var b strings.Builder
	for id := range d.Next() {
		if n, there := d.Get(id); there {
			fmt.Fprintf(&b, "%+v\n", n)
		}
	}
	fmt.Fprintf(&b, "next %d room %d", d.Next(), d.Room())
	return b.String()
}

// isName is Name of layer 2, spelt out independently of the program.
func isName(s string) bool {
	for i, c := range []byte(s) {
		letter := c >= 'a' && c <= 'z'
		if !letter && (i == 0 || c != '-' && (c < '0' || c > '9')) {
			return false
		}
	}
	return len(s) >= 1 && len(s) <= 16
}

// once returns l with each element at its first position only.
func once[T comparable](l []T) []T {
	var list []T
	for _, x := range l {
		if !slices.Contains(list, x) {
			list = append(list, x)
		}
	}
	return list
}

// values returns pairs as a Go map, in which the last one of a name counts.
func values[V comparable](m props.Map[V]) map[string]V {
	all := map[string]V{}
	for _, p := range m {
		all[p.Name] = p.Value
	}
	return all
}

// follows reports whether the names of part stand in whole in this order.
func follows(part, whole []string) bool {
	for _, c := range whole {
		if len(part) > 0 && part[0] == c {
			part = part[1:]
		}
	}
	return len(part) == 0
}

// classOps returns what must be recorded for classes: the longest beginning of b is
// tried first, then shorter ones.
func classOps(id int, a, b []string) []trail.Op {
	b = once(b)
	kept := len(b)
	for !follows(b[:kept], a) {
		kept--
	}
	var ops []trail.Op
	for _, c := range a {
		if !slices.Contains(b[:kept], c) {
			ops = append(ops, trail.Op{Kind: trail.NoClass, A: id, Name: c})
		}
	}
	for _, c := range b[kept:] {
		ops = append(ops, trail.Op{Kind: trail.Class, A: id, Name: c})
	}
	return ops
}

// pairOps returns what must be recorded for attributes or styles, of which set makes
// an Op.
func pairOps[V comparable](id, drop int, a, b props.Map[V], set func(name string, v V) trail.Op) []trail.Op {
	had, has := values(a), values(b)
	var ops []trail.Op
	for _, name := range slices.Sorted(maps.Keys(had)) {
		if _, stays := has[name]; !stays {
			ops = append(ops, trail.Op{Kind: drop, A: id, Name: name})
		}
	}
	for _, name := range slices.Sorted(maps.Keys(has)) {
		if v, there := had[name]; !there || v != has[name] {
			ops = append(ops, set(name, has[name]))
		}
	}
	return ops
}

// dressOps is Dress, spelt out independently of the program: what must be recorded,
// and the error.
func dressOps(d *arena.Dom, id int, o dress.Own) ([]trail.Op, api.Errno) {
	n, there := d.Get(id)
	if !there {
		return nil, api.ErrNode
	}
	if id == 0 {
		return nil, api.ErrArg
	}
	if n.Kind == arena.Text {
		return nil, api.ErrKind
	}
	for _, name := range slices.Concat(o.Classes, slices.Collect(maps.Keys(values(o.Attrs))), slices.Collect(maps.Keys(values(o.Styles)))) {
		if !isName(name) {
			return nil, api.ErrForm
		}
	}
	return slices.Concat(
		classOps(id, n.Classes, o.Classes),
		pairOps(id, trail.NoAttr, n.Attrs, o.Attrs, func(name, v string) trail.Op {
			return trail.Op{Kind: trail.Attr, A: id, Name: name, Value: v}
		}),
		pairOps(id, trail.NoStyle, n.Styles, o.Styles, func(name string, v int) trail.Op {
			return trail.Op{Kind: trail.Style, A: id, Name: name, C: v}
		}),
	), api.OK
}

// parents returns a node and all that it is below.
func parents(d *arena.Dom, id int) []int {
	var way []int
	for n, there := d.Get(id); there; n, there = d.Get(n.Parent) {
		way = append(way, n.ID)
	}
	return way
}

// kidsError is the error of Kids, spelt out by what Get tells alone.
func kidsError(d *arena.Dom, parent int, to []int) api.Errno {
	p, there := d.Get(parent)
	if !there {
		return api.ErrNode
	}
	if p.Kind == arena.Text {
		return api.ErrKind
	}
	for _, kid := range p.Kids {
		if !slices.Contains(to, kid) {
			return api.ErrArg
		}
	}
	above := parents(d, parent)
	for _, id := range to {
		n, there := d.Get(id)
		kid := there && n.Parent == parent
		loose := there && id != 0 && n.Parent == -1 && !slices.Contains(above, id)
		if !kid && !loose {
			return api.ErrArg
		}
	}
	return api.OK
}

// fewest returns the least number of Moves from one list to another that has all
// numbers of it, by trying every choice of numbers that stay.
func fewest(from, to []int) int {
	most := 0
	for choice := range 1 << len(from) {
		var stay []int
		for i, n := range from {
			if choice>>i&1 > 0 {
				stay = append(stay, n)
			}
		}
		order := slices.DeleteFunc(slices.Clone(to), func(n int) bool { return !slices.Contains(stay, n) })
		if slices.Equal(order, stay) {
			most = max(most, len(stay))
		}
	}
	return len(from) - most
}

func choose[T any](r *rand.Rand, l ...T) T { return l[r.Intn(len(l))] }

// good names, and bad ones, which are none.
const (
	good = "a b c on t-move t-ghost a-1 abcdefghijklmnop"
	bad  = "A 1a -a a_b abcdefghijklmnopq a.b é a\x00"
)

// own returns what a node may have, with repeated names in any order; now and then
// there is one that is no name.
func own(r *rand.Rand) dress.Own {
	var o dress.Own
	spoilt := r.Intn(6) == 0
	name := func() string {
		if spoilt && r.Intn(8) == 0 {
			return choose(r, append(strings.Fields(bad), "")...)
		}
		return choose(r, strings.Fields(good)...)
	}
	for range r.Intn(6) {
		o.Classes = append(o.Classes, name())
	}
	for range r.Intn(5) {
		o.Attrs = append(o.Attrs, props.Pair[string]{Name: name(), Value: choose(r, "", "x", "'(\xff")})
	}
	for range r.Intn(5) {
		o.Styles = append(o.Styles, props.Pair[int]{Name: name(), Value: choose(r, 0, 1, -1, math.MaxInt32, math.MinInt32)})
	}
	return o
}

// garden returns nodes of both kinds: a tree, loose nodes, and loose nodes with
// kids; numbers of removed nodes lie in between.
func garden(r *rand.Rand) *arena.Dom {
	d := arena.New(40)
	for range 4 + r.Intn(12) {
		var id int
		if r.Intn(4) == 0 {
			id, _ = d.Text(choose(r, "", "x", "y"))
		} else {
			id, _ = d.Element(choose(r, "p", "li", "root"))
		}
		if r.Intn(3) > 0 {
			d.Insert(choose(r, 0, r.Intn(d.Next()), r.Intn(d.Next())), 0, id)
		}
		d.AddClass(id, choose(r, "a", "b", "t-move"))
		d.AddClass(id, choose(r, "c", "b"))
		d.SetAttr(id, choose(r, "a", "b"), choose(r, "", "x"))
		d.SetStyle(id, choose(r, "a", "on"), choose(r, 0, 1, 1<<40))
		if r.Intn(8) == 0 {
			d.Remove(r.Intn(d.Next()))
		}
	}
	return d
}
