package arena_test

import (
	"math"
	"slices"
	"strings"
	"testing"

	"scrim/api"
	"scrim/arena"
	"scrim/props"
)

// model is a Dom, spelt out independently of the program: all nodes that ever
// were, by their numbers, and who is whose parent found by looking at all kids.
type model struct {
	most  int
	nodes []thing
}

type thing struct {
	gone, text bool
	tag, say   string
	classes    []string
	attrs      map[string]string
	styles     map[string]int
	kids       []int
}

func newModel(most int) *model {
	return &model{most: min(max(most, 1), 65536), nodes: []thing{{tag: "root"}}}
}

func (m *model) is(id int) bool { return id >= 0 && id < len(m.nodes) && !m.nodes[id].gone }

func (m *model) parent(id int) int {
	for p := range m.nodes {
		if m.is(p) && slices.Contains(m.nodes[p].kids, id) {
			return p
		}
	}
	return -1
}

func (m *model) below(id int) []int {
	all := []int{id}
	for _, kid := range m.nodes[id].kids {
		all = append(all, m.below(kid)...)
	}
	return all
}

func (m *model) count() int {
	n := 0
	for id := range m.nodes {
		if m.is(id) && id > 0 {
			n++
		}
	}
	return n
}

// named is what the document says of names in layer 2.
func named(s string) bool {
	if len(s) < 1 || len(s) > 16 || s[0] < 'a' || s[0] > 'z' {
		return false
	}
	return strings.Trim(s, "abcdefghijklmnopqrstuvwxyz0123456789-") == ""
}

func (m *model) create(x thing) (int, api.Errno) {
	if !x.text && !named(x.tag) {
		return 0, api.ErrForm
	}
	if m.count() >= m.most {
		return 0, api.ErrNodes
	}
	x.attrs, x.styles = map[string]string{}, map[string]int{}
	m.nodes = append(m.nodes, x)
	return len(m.nodes) - 1, api.OK
}

func (m *model) insert(parent, at, id int) api.Errno {
	switch {
	case !m.is(parent), !m.is(id):
		return api.ErrNode
	case m.nodes[parent].text:
		return api.ErrKind
	case id == 0, m.parent(id) >= 0, slices.Contains(m.below(id), parent), at < 0, at > len(m.nodes[parent].kids):
		return api.ErrArg
	}
	kids := m.nodes[parent].kids
	m.nodes[parent].kids = slices.Concat(kids[:at], []int{id}, kids[at:])
	return api.OK
}

func (m *model) move(id, at int) api.Errno {
	if !m.is(id) {
		return api.ErrNode
	}
	p := m.parent(id)
	if p < 0 || at < 0 || at > len(m.nodes[p].kids)-1 {
		return api.ErrArg
	}
	var others []int
	for _, kid := range m.nodes[p].kids {
		if kid != id {
			others = append(others, kid)
		}
	}
	m.nodes[p].kids = slices.Concat(others[:at], []int{id}, others[at:])
	return api.OK
}

func (m *model) remove(id int) api.Errno {
	switch {
	case !m.is(id):
		return api.ErrNode
	case id == 0:
		return api.ErrArg
	}
	if p := m.parent(id); p >= 0 {
		var others []int
		for _, kid := range m.nodes[p].kids {
			if kid != id {
				others = append(others, kid)
			}
		}
		m.nodes[p].kids = others
	}
	for _, x := range m.below(id) {
		m.nodes[x].gone = true
	}
	return api.OK
}

// what is a change of a node by its name.
type what int

const (
	setTag what = iota
	setText
	setAttr
	dropAttr
	setStyle
	dropStyle
	addClass
	dropClass
	changes
)

// change returns the error of a change, and performs it if there is none.
func (m *model) change(w what, id int, name, v string, n int) api.Errno {
	if !m.is(id) {
		return api.ErrNode
	}
	x := &m.nodes[id]
	_, attr := x.attrs[name]
	_, style := x.styles[name]
	class := slices.Contains(x.classes, name)
	switch {
	case id == 0:
		return api.ErrArg
	case x.text != (w == setText):
		return api.ErrKind
	case w != setText && !named(name):
		return api.ErrForm
	case w == dropAttr && !attr, w == dropStyle && !style, w == dropClass && !class, w == addClass && class:
		return api.ErrArg
	}
	switch w {
	case setTag:
		x.tag = name
	case setText:
		x.say = v
	case setAttr:
		x.attrs[name] = v
	case dropAttr:
		delete(x.attrs, name)
	case setStyle:
		x.styles[name] = min(max(n, math.MinInt32), math.MaxInt32)
	case dropStyle:
		delete(x.styles, name)
	case addClass:
		x.classes = append(slices.Clone(x.classes), name)
	case dropClass:
		at := slices.Index(x.classes, name)
		x.classes = slices.Concat(x.classes[:at], x.classes[at+1:])
	}
	return api.OK
}

func change(d *arena.Dom, w what, id int, name, v string, n int) api.Errno {
	switch w {
	case setTag:
		return d.SetTag(id, name)
	case setText:
		return d.SetText(id, v)
	case setAttr:
		return d.SetAttr(id, name, v)
	case dropAttr:
		return d.DropAttr(id, name)
	case setStyle:
		return d.SetStyle(id, name, n)
	case dropStyle:
		return d.DropStyle(id, name)
	case addClass:
		return d.AddClass(id, name)
	}
	return d.DropClass(id, name)
}

func ordered[V comparable](values map[string]V) props.Map[V] {
	var m props.Map[V]
	for name, v := range values {
		m = append(m, props.Pair[V]{Name: name, Value: v})
	}
	slices.SortFunc(m, func(p, q props.Pair[V]) int { return strings.Compare(p.Name, q.Name) })
	return m
}

// node is what Get must return.
func (m *model) node(id int) (arena.Node, bool) {
	if !m.is(id) {
		return arena.Node{}, false
	}
	x := m.nodes[id]
	n := arena.Node{ID: id, Kind: arena.Element, Tag: x.tag, Parent: m.parent(id)}
	if x.text {
		n.Kind, n.Tag, n.Text = arena.Text, "", x.say
		return n, true
	}
	n.Classes, n.Kids = x.classes, x.kids
	n.Attrs, n.Styles = ordered(x.attrs), ordered(x.styles)
	return n, true
}

// alike compares nodes; nil and empty are equivalent.
func alike(a, b arena.Node) bool {
	return a.ID == b.ID && a.Kind == b.Kind && a.Tag == b.Tag && a.Text == b.Text && a.Parent == b.Parent &&
		slices.Equal(a.Classes, b.Classes) && slices.Equal(a.Kids, b.Kids) &&
		slices.Equal(a.Attrs, b.Attrs) && slices.Equal(a.Styles, b.Styles)
}

// agree asks the Dom everything that can be asked and compares it with the model.
func agree(t *testing.T, d *arena.Dom, m *model) {
	t.Helper()
	if d.Count() != m.count() || d.Room() != m.most-m.count() || d.Next() != len(m.nodes) {
		t.Fatalf("Count, Room and Next are %d, %d and %d, wanted %d, %d and %d",
			d.Count(), d.Room(), d.Next(), m.count(), m.most-m.count(), len(m.nodes))
	}
	if got := d.Order(); !slices.Equal(got, m.below(0)) {
		t.Fatalf("Order is %v, wanted %v", got, m.below(0))
	}
	for id := -2; id < len(m.nodes)+2; id++ {
		got, is := d.Get(id)
		want, there := m.node(id)
		if is != there || !alike(got, want) {
			t.Fatalf("Get of %d is %+v %v, wanted %+v %v", id, got, is, want, there)
		}
		at := -1
		if p := m.parent(id); p >= 0 {
			at = slices.Index(m.nodes[p].kids, id)
		}
		if got := d.Index(id); got != at {
			t.Fatalf("Index of %d is %d, wanted %d", id, got, at)
		}
		for of := -2; of < len(m.nodes)+2; of++ {
			want := there && m.is(of) && slices.Contains(m.below(of), id)
			if got := d.Within(id, of); got != want {
				t.Fatalf("Within of %d and %d is %v", id, of, got)
			}
		}
	}
}
