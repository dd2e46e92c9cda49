package audit_test

import (
	"fmt"
	"slices"
	"strings"

	"scrim/audit"
	"scrim/props"
	"scrim/still"
)

// marks are the classes of each kind of a look, spelt out.
var marks = map[int]string{1: "t-wait", 2: "t-enter-from t-enter-active", 3: "t-enter-active t-enter-to", 4: "t-hold", 5: "t-leave-from t-leave-active", 6: "t-leave-active t-leave-to"}

// modelCheck is Check, spelt out condition by condition, without the program's looks.
func modelCheck(p audit.Picture) []audit.Finding {
	var l []audit.Finding
	find := func(kind, id int, is bool) {
		if is {
			l = append(l, audit.Finding{Kind: kind, ID: id})
		}
	}
	var bare []still.Tree
	if !has(p.Tree.Attrs, "t-ghost") {
		bare = modelErased(p.Tree.Kids)
	}
	switch {
	case p.Mounted:
		find(1, 0, len(bare) != 1 || !still.Same(bare[0], still.Of(p.View)))
	default:
		find(1, 0, len(bare) > 0)
	}
	all := flat(p.Tree)
	for _, k := range p.Kids {
		at := slices.IndexFunc(all, func(n still.Tree) bool { return n.ID == k.ID })
		find(2, k.ID, at < 0 || !modelDressed(all[at], k))
		ghost := k.Look.Kind >= 4 && k.Look.Kind <= 6
		find(3, k.ID, at >= 0 && has(all[at].Attrs, "t-ghost") != ghost)
		find(4, k.ID, !slices.Equal(modelWaits(p, k.ID), modelDue(k)))
	}
	for _, j := range p.Pending {
		known := slices.ContainsFunc(p.Kids, func(k audit.Kid) bool { return k.ID == j.Job.Node })
		late := j.Deadline < p.Now
		if j.Ref.Frame {
			late = j.Left < 1 || j.Left > 2
		}
		find(5, j.Job.Node, !known || j.Job.Kind < 1 || j.Job.Kind > 2 || late)
	}
	find(6, 0, !p.Hooks.Check())
	return l
}

func modelDressed(n still.Tree, k audit.Kid) bool {
	var classes []string
	for _, c := range n.Classes {
		if strings.HasPrefix(c, "t-") {
			classes = append(classes, c)
		}
	}
	want := strings.Fields(marks[k.Look.Kind])
	if k.Look.Move != 0 {
		want = append(want, "t-move")
	}
	dx, dy := has(n.Styles, "t-dx"), has(n.Styles, "t-dy")
	if k.Look.Move == 1 {
		return slices.Equal(classes, want) && dx && dy && last(n.Styles, "t-dx") == k.Look.DX && last(n.Styles, "t-dy") == k.Look.DY
	}
	return slices.Equal(classes, want) && !dx && !dy
}

// modelWaits are the jobs of a node as texts, in ascending order.
func modelWaits(p audit.Picture, id int) []string {
	var l []string
	for _, j := range p.Pending {
		if j.Job.Node == id {
			l = append(l, fmt.Sprint(j.Job.Kind, j.Ref.Frame))
		}
	}
	slices.Sort(l)
	return l
}

// modelDue are those that there should be.
func modelDue(k audit.Kid) []string {
	var l []string
	switch k.Look.Kind {
	case 2, 5:
		l = append(l, "1 true")
	case 3, 6:
		l = append(l, "1 false")
	}
	switch k.Look.Move {
	case 1:
		l = append(l, "2 true")
	case 2:
		l = append(l, "2 false")
	}
	return l
}

func has[V comparable](m props.Map[V], name string) bool {
	return slices.ContainsFunc(m, func(p props.Pair[V]) bool { return p.Name == name })
}

// last is the value of the last pair with a name.
func last[V comparable](m props.Map[V], name string) V {
	var v V
	for _, p := range m {
		if p.Name == name {
			v = p.Value
		}
	}
	return v
}

// flat is a tree and everything below it, each before those below it.
func flat(n still.Tree) []still.Tree {
	l := []still.Tree{n}
	for _, kid := range n.Kids {
		l = append(l, flat(kid)...)
	}
	return l
}

// modelErased is kids without what is reserved.
func modelErased(kids []still.Tree) []still.Tree {
	var l []still.Tree
	for _, n := range kids {
		if has(n.Attrs, "t-ghost") {
			continue
		}
		bare := still.Tree{ID: n.ID, Kind: n.Kind, Tag: n.Tag, Text: n.Text, Kids: modelErased(n.Kids)}
		for _, c := range n.Classes {
			if !strings.HasPrefix(c, "t-") {
				bare.Classes = append(bare.Classes, c)
			}
		}
		for _, p := range n.Attrs {
			if !strings.HasPrefix(p.Name, "t-") {
				bare.Attrs = append(bare.Attrs, p)
			}
		}
		for _, p := range n.Styles {
			if !strings.HasPrefix(p.Name, "t-") {
				bare.Styles = append(bare.Styles, p)
			}
		}
		l = append(l, bare)
	}
	return l
}
