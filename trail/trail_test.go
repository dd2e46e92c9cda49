package trail_test

import (
	"math"
	"math/rand"
	"slices"
	"strings"
	"testing"

	"scrim/api"
	"scrim/arena"
	"scrim/trail"
)

func wants(t *testing.T, what string, got, want api.Errno) {
	t.Helper()
	if got != want {
		t.Errorf("%s is %d, wanted %d", what, got, want)
	}
}

// same compares two Doms in everything that they tell.
func same(t *testing.T, got, want *arena.Dom) {
	t.Helper()
	if got.Next() != want.Next() || got.Room() != want.Room() || got.Count() != want.Count() || !slices.Equal(got.Order(), want.Order()) {
		t.Fatalf("%d %d %v, wanted %d %d %v", got.Next(), got.Room(), got.Order(), want.Next(), want.Room(), want.Order())
	}
	for id := range want.Next() {
		a, is := got.Get(id)
		b, should := want.Get(id)
		if is != should || a.Kind != b.Kind || a.Tag != b.Tag || a.Text != b.Text || a.Parent != b.Parent ||
			!slices.Equal(a.Classes, b.Classes) || !slices.Equal(a.Kids, b.Kids) ||
			!slices.Equal(a.Attrs, b.Attrs) || !slices.Equal(a.Styles, b.Styles) {
			t.Fatalf("node %d is %+v %v, wanted %+v %v", id, a, is, b, should)
		}
	}
}

func noted(t *testing.T, l *trail.Log, want ...trail.Op) {
	t.Helper()
	if got := l.Ops(); !slices.Equal(got, want) {
		t.Fatalf("the Ops are %+v, wanted %+v", got, want)
	}
}

// changer has what a Dom and a Log have in common, by the same names.
type changer interface {
	Element(string) (int, api.Errno)
	Text(string) (int, api.Errno)
	Insert(int, int, int) api.Errno
	Move(int, int) api.Errno
	Remove(int) api.Errno
	SetTag(int, string) api.Errno
	SetText(int, string) api.Errno
	SetAttr(int, string, string) api.Errno
	DropAttr(int, string) api.Errno
	SetStyle(int, string, int) api.Errno
	DropStyle(int, string) api.Errno
	AddClass(int, string) api.Errno
	DropClass(int, string) api.Errno
}

// call is one method with what it may be passed.
type call struct {
	kind, one, at, two, n int
	name, v               string
}

// do makes the call; id is what Element and Text return.
func (c call) do(d changer) (id int, e api.Errno) {
	switch c.kind {
	case trail.Element:
		return d.Element(c.name)
	case trail.Text:
		return d.Text(c.v)
	case trail.Insert:
		return 0, d.Insert(c.one, c.at, c.two)
	case trail.Move:
		return 0, d.Move(c.one, c.at)
	case trail.Remove:
		return 0, d.Remove(c.one)
	case trail.Tag:
		return 0, d.SetTag(c.one, c.name)
	case trail.Say:
		return 0, d.SetText(c.one, c.v)
	case trail.Attr:
		return 0, d.SetAttr(c.one, c.name, c.v)
	case trail.NoAttr:
		return 0, d.DropAttr(c.one, c.name)
	case trail.Style:
		return 0, d.SetStyle(c.one, c.name, c.n)
	case trail.NoStyle:
		return 0, d.DropStyle(c.one, c.name)
	case trail.Class:
		return 0, d.AddClass(c.one, c.name)
	}
	return 0, d.DropClass(c.one, c.name)
}

// op is what must be recorded of the call.
func (c call) op(id int) trail.Op {
	o := trail.Op{Kind: c.kind, A: c.one, Name: c.name}
	switch c.kind {
	case trail.Element:
		o.A = id
	case trail.Text:
		o.A, o.Name, o.Value = id, "", c.v
	case trail.Insert:
		o.B, o.C, o.Name = c.at, c.two, ""
	case trail.Move:
		o.B, o.Name = c.at, ""
	case trail.Remove:
		o.Name = ""
	case trail.Say:
		o.Name, o.Value = "", c.v
	case trail.Attr:
		o.Value = c.v
	case trail.Style:
		o.C = c.n
	}
	return o
}

func choose[T any](r *rand.Rand, l ...T) T { return l[r.Intn(len(l))] }

// anyCall returns a call that is permitted now and then.
func anyCall(r *rand.Rand, next int) call {
	return call{
		kind: choose(r, 1, 1, 2, 3, 3, 3, 3, 3, 4, 4, 4, 5, 6, 7, 8, 8, 9, 10, 10, 11, 12, 12, 13),
		one:  choose(r, 0, 1, 2, r.Intn(next+2)-1), two: r.Intn(next+2) - 1, at: r.Intn(4) - 1,
		n:    choose(r, 0, 7, -7, 1<<40, math.MinInt64),
		name: choose(r, "a", "a", "a", "b", "b", "t-x", "", "A"), v: choose(r, "", "x", "y", "\xff"),
	}
}

// P6.1: the kinds are numbers that other layers see.
func TestKinds(t *testing.T) {
	for i, kind := range []int{
		trail.Element, trail.Text, trail.Insert, trail.Move, trail.Remove, trail.Tag, trail.Say,
		trail.Attr, trail.NoAttr, trail.Style, trail.NoStyle, trail.Class, trail.NoClass,
	} {
		if kind != i+1 {
			t.Errorf("kind %d is %d", i+1, kind)
		}
	}
}

// P6.1: the document's example.
func TestExample(t *testing.T) {
	l := trail.On(arena.New(9))
	noted(t, l)
	l.Element("p")
	l.Insert(0, 0, 1)
	noted(t, l, trail.Op{Kind: trail.Element, A: 1, Name: "p"}, trail.Op{Kind: trail.Insert, A: 0, B: 0, C: 1})
}

// P6.1: what each kind of change is recorded as; also one that leaves everything
// as it was, and a number as it was passed.
func TestEachKind(t *testing.T) {
	d := arena.New(9)
	l := trail.On(d)
	if id, e := l.Element("ul"); id != 1 || e != api.OK {
		t.Errorf("Element is %d %d", id, e)
	}
	if id, e := l.Text("hi"); id != 2 || e != api.OK {
		t.Errorf("Text is %d %d", id, e)
	}
	l.Element("li")
	for i, e := range []api.Errno{
		l.Insert(0, 0, 1), l.Insert(1, 0, 2), l.Insert(1, 1, 3), l.Move(2, 1), l.Move(2, 1), l.SetTag(1, "ol"), l.SetTag(1, "ol"),
		l.SetText(2, "ho"), l.SetAttr(1, "a", "v"), l.SetAttr(1, "a", "v"), l.DropAttr(1, "a"), l.SetStyle(1, "w", 1<<40), l.SetStyle(1, "h", -1<<40),
		l.DropStyle(1, "w"), l.AddClass(1, "c"), l.DropClass(1, "c"), l.Remove(3),
	} {
		if e != api.OK {
			t.Errorf("call %d is %d", i, e)
		}
	}
	noted(t, l,
		trail.Op{Kind: 1, A: 1, Name: "ul"}, trail.Op{Kind: 2, A: 2, Value: "hi"}, trail.Op{Kind: 1, A: 3, Name: "li"},
		trail.Op{Kind: 3, A: 0, B: 0, C: 1}, trail.Op{Kind: 3, A: 1, B: 0, C: 2}, trail.Op{Kind: 3, A: 1, B: 1, C: 3},
		trail.Op{Kind: 4, A: 2, B: 1}, trail.Op{Kind: 4, A: 2, B: 1}, trail.Op{Kind: 6, A: 1, Name: "ol"}, trail.Op{Kind: 6, A: 1, Name: "ol"},
		trail.Op{Kind: 7, A: 2, Value: "ho"}, trail.Op{Kind: 8, A: 1, Name: "a", Value: "v"}, trail.Op{Kind: 8, A: 1, Name: "a", Value: "v"},
		trail.Op{Kind: 9, A: 1, Name: "a"}, trail.Op{Kind: 10, A: 1, Name: "w", C: 1 << 40}, trail.Op{Kind: 10, A: 1, Name: "h", C: -1 << 40},
		trail.Op{Kind: 11, A: 1, Name: "w"}, trail.Op{Kind: 12, A: 1, Name: "c"}, trail.Op{Kind: 13, A: 1, Name: "c"}, trail.Op{Kind: 5, A: 3},
	)
	same(t, l.Dom, d)
	if n, _ := d.Get(1); n.Tag != "ol" || l.Count() != 2 || !slices.Equal(l.Order(), []int{0, 1, 2}) {
		t.Errorf("the Dom is not changed: %+v", n)
	}
}

// P6.1: a rejected call changes nothing and is not recorded.
func TestRejected(t *testing.T) {
	l := trail.On(arena.New(2))
	l.Element("p")
	l.Text("x")
	l.Insert(0, 0, 1)
	l.Clear()
	before := l.Clone()
	for i, c := range []struct {
		got, want api.Errno
	}{
		{l.Insert(9, 0, 2), api.ErrNode}, {l.Insert(2, 0, 1), api.ErrKind}, {l.Insert(1, 1, 2), api.ErrArg},
		{l.Move(9, 0), api.ErrNode}, {l.Move(1, 1), api.ErrArg}, {l.Remove(9), api.ErrNode}, {l.Remove(0), api.ErrArg},
		{l.SetTag(0, "p"), api.ErrArg}, {l.SetTag(1, "1"), api.ErrForm}, {l.SetText(1, ""), api.ErrKind}, {l.SetAttr(2, "a", ""), api.ErrKind},
		{l.DropAttr(1, "a"), api.ErrArg}, {l.SetStyle(1, "", 0), api.ErrForm}, {l.DropStyle(1, "a"), api.ErrArg},
		{l.AddClass(9, "a"), api.ErrNode}, {l.DropClass(1, "a"), api.ErrArg},
	} {
		if c.got != c.want {
			t.Errorf("call %d is %d, wanted %d", i, c.got, c.want)
		}
	}
	if id, e := l.Element("p"); id != 0 || e != api.ErrNodes {
		t.Errorf("Element is %d %d", id, e)
	}
	if id, e := l.Element("1"); id != 0 || e != api.ErrForm {
		t.Errorf("Element of no name is %d %d", id, e)
	}
	if id, e := l.Text(""); id != 0 || e != api.ErrNodes {
		t.Errorf("Text is %d %d", id, e)
	}
	noted(t, l)
	same(t, l.Dom, before)
}

// P6.1: Clear forgets what was recorded, and no more.
func TestClear(t *testing.T) {
	l := trail.On(arena.New(9))
	l.Clear()
	noted(t, l)
	l.Element("p")
	l.Insert(0, 0, 1)
	before := l.Clone()
	l.Clear()
	noted(t, l)
	same(t, l.Dom, before)
	l.AddClass(1, "a")
	noted(t, l, trail.Op{Kind: trail.Class, A: 1, Name: "a"})
}

// P6.1 and P6.2: any calls, of which those that return OK are recorded and
// performed, and no other ones. What was recorded, replayed on a Clone of the
// state at the last Clear, leads to the same state.
func TestAnyCalls(t *testing.T) {
	counts := map[int]int{}
	for seed := range 400 {
		r := rand.New(rand.NewSource(int64(seed)))
		d := arena.New(choose(r, 1, 4, 12, 99))
		other, start := d.Clone(), d.Clone()
		l := trail.On(d)
		var want []trail.Op
		for range 150 {
			c := anyCall(r, d.Next())
			id, e := c.do(l)
			should, wanted := c.do(other)
			if id != should || e != wanted {
				t.Fatalf("%+v is %d %d, wanted %d %d", c, id, e, should, wanted)
			}
			if e == api.OK {
				want = append(want, c.op(id))
				counts[c.kind]++
			}
			noted(t, l, want...)
			if r.Intn(60) == 0 {
				l.Clear()
				want, start = nil, d.Clone()
			}
		}
		same(t, d, other)
		if n, e := trail.Replay(start, l.Ops()); n != len(want) || e != api.OK {
			t.Fatalf("Replay is %d %d, wanted %d", n, e, len(want))
		}
		same(t, start, d)
	}
	for kind := trail.Element; kind <= trail.NoClass; kind++ {
		if counts[kind] < 50 {
			t.Errorf("kind %d was recorded %d times only", kind, counts[kind])
		}
	}
}

// P6.2: also when numbers of removed nodes lie in between, and loose nodes exist.
func TestReplayAfterRemovals(t *testing.T) {
	d := arena.New(3)
	d.Element("a")
	d.Element("b")
	d.Text("c")
	d.Remove(2)
	start, l := d.Clone(), trail.On(d)
	l.Element("d")
	l.Insert(1, 0, 4)
	l.Insert(0, 0, 1)
	l.Remove(3)
	l.Text("e")
	noted(t, l, trail.Op{Kind: 1, A: 4, Name: "d"}, trail.Op{Kind: 3, A: 1, C: 4}, trail.Op{Kind: 3, C: 1}, trail.Op{Kind: 5, A: 3}, trail.Op{Kind: 2, A: 5, Value: "e"})
	if n, e := trail.Replay(start, l.Ops()); n != 5 || e != api.OK {
		t.Errorf("Replay is %d %d", n, e)
	}
	same(t, start, d)
}

// some returns a Dom with p 1 below the root and a loose Text 2, and room for one
// more node.
func some() *arena.Dom {
	d := arena.New(3)
	d.Element("p")
	d.Text("x")
	d.Insert(0, 0, 1)
	return d
}

// P6.1: the error of each kind of Op: that of its method, but for kinds that do
// not exist and for numbers that are not the next one.
func TestReplayErrors(t *testing.T) {
	for _, c := range []struct {
		op   trail.Op
		want api.Errno
	}{
		{trail.Op{}, api.ErrKind}, {trail.Op{Kind: 14, A: 1, Name: "a"}, api.ErrKind}, {trail.Op{Kind: -1}, api.ErrKind},
		{trail.Op{Kind: math.MaxInt64}, api.ErrKind}, {trail.Op{Kind: math.MinInt64, A: 9}, api.ErrKind},
		{trail.Op{Kind: trail.Element, A: 4, Name: "p"}, api.ErrArg}, {trail.Op{Kind: trail.Element, A: 2, Name: "p"}, api.ErrArg},
		{trail.Op{Kind: trail.Element, Name: "1"}, api.ErrArg}, {trail.Op{Kind: trail.Element, A: 3, Name: "1"}, api.ErrForm},
		{trail.Op{Kind: trail.Element, A: 3}, api.ErrForm}, {trail.Op{Kind: trail.Text, A: 4}, api.ErrArg}, {trail.Op{Kind: trail.Text, A: -1}, api.ErrArg},
		{trail.Op{Kind: trail.Insert, A: 9, C: 2}, api.ErrNode}, {trail.Op{Kind: trail.Insert, A: 2, C: 1}, api.ErrKind}, {trail.Op{Kind: trail.Insert, A: 1, B: 1, C: 2}, api.ErrArg},
		{trail.Op{Kind: trail.Move, A: 9}, api.ErrNode}, {trail.Op{Kind: trail.Move, A: 1, B: 1}, api.ErrArg},
		{trail.Op{Kind: trail.Remove, A: 9}, api.ErrNode}, {trail.Op{Kind: trail.Remove}, api.ErrArg},
		{trail.Op{Kind: trail.Tag, A: 1, Name: "1"}, api.ErrForm}, {trail.Op{Kind: trail.Tag, A: 2, Name: "a"}, api.ErrKind},
		{trail.Op{Kind: trail.Say, A: 1, Value: "x"}, api.ErrKind}, {trail.Op{Kind: trail.Say, Value: "x"}, api.ErrArg},
		{trail.Op{Kind: trail.Attr, A: 1, Value: "x"}, api.ErrForm}, {trail.Op{Kind: trail.Attr, Name: "a"}, api.ErrArg},
		{trail.Op{Kind: trail.NoAttr, A: 1, Name: "a"}, api.ErrArg}, {trail.Op{Kind: trail.Style, A: 2, Name: "a"}, api.ErrKind},
		{trail.Op{Kind: trail.NoStyle, A: 1, Name: "a"}, api.ErrArg}, {trail.Op{Kind: trail.Class, A: 9, Name: "a"}, api.ErrNode},
		{trail.Op{Kind: trail.NoClass, A: 1, Name: "a"}, api.ErrArg},
	} {
		d := some()
		if n, e := trail.Replay(d, []trail.Op{c.op}); n != 0 || e != c.want {
			t.Errorf("Replay of %+v is %d %d, wanted %d", c.op, n, e, c.want)
		}
		same(t, d, some())
	}
	d := some()
	d.Element("b")
	for _, c := range []struct {
		op   trail.Op
		want api.Errno
	}{
		{trail.Op{Kind: trail.Element, A: 3, Name: "p"}, api.ErrArg}, {trail.Op{Kind: trail.Element, A: 4, Name: "p"}, api.ErrNodes},
		{trail.Op{Kind: trail.Element, A: 4, Name: "1"}, api.ErrForm}, {trail.Op{Kind: trail.Text, A: 3}, api.ErrArg}, {trail.Op{Kind: trail.Text, A: 4}, api.ErrNodes},
	} {
		if n, e := trail.Replay(d, []trail.Op{c.op}); n != 0 || e != c.want {
			t.Errorf("Replay of %+v is %d %d, wanted %d", c.op, n, e, c.want)
		}
	}
}

// P6.1: Replay performs what precedes the first error, and nothing that follows.
func TestReplayUpToTheFirstError(t *testing.T) {
	good := []trail.Op{
		{Kind: trail.Class, A: 1, Name: "a"}, {Kind: trail.Insert, A: 1, C: 2}, {Kind: trail.Say, A: 2, Value: "y"}, {Kind: trail.Text, A: 3, Value: "z"},
	}
	for at := range len(good) + 1 {
		for bad, want := range map[trail.Op]api.Errno{
			{}: api.ErrKind, {Kind: trail.Element, A: 9, Name: "p"}: api.ErrArg, {Kind: trail.Remove, A: 9}: api.ErrNode, {Kind: trail.Tag, A: 1}: api.ErrForm,
		} {
			d, should := some(), some()
			n, e := trail.Replay(d, slices.Insert(slices.Clone(good), at, bad))
			if n != at || e != want {
				t.Errorf("Replay is %d %d, wanted %d %d", n, e, at, want)
			}
			if n, e := trail.Replay(should, good[:at]); n != at || e != api.OK {
				t.Errorf("Replay is %d %d, wanted %d", n, e, at)
			}
			same(t, d, should)
		}
	}
	d := some()
	for _, none := range [][]trail.Op{nil, {}} {
		if n, e := trail.Replay(d, none); n != 0 || e != api.OK {
			t.Errorf("Replay of nothing is %d %d", n, e)
		}
	}
	same(t, d, some())
}

// P6.1: Count asks for the Kind alone.
func TestCount(t *testing.T) {
	ops := []trail.Op{{Kind: 3, A: 1}, {Kind: 4, A: 3}, {Kind: 3}, {}, {Kind: -1, B: 4}, {Kind: 3, Name: "x"}, {Kind: 99, C: 4}}
	for kind, want := range map[int]int{3: 3, 4: 1, 0: 1, -1: 1, 99: 1, 1: 0, 13: 0, math.MaxInt64: 0, math.MinInt64: 0} {
		if got := trail.Count(ops, kind); got != want || trail.Count(nil, kind) != 0 {
			t.Errorf("Count of %d is %d, wanted %d", kind, got, want)
		}
	}
}

// Rule 5: Ops returns new memory, and Replay and Count leave what they are passed.
func TestMemory(t *testing.T) {
	l := trail.On(some())
	l.AddClass(1, "a")
	l.SetText(2, "y")
	first := trail.Op{Kind: trail.Class, A: 1, Name: "a"}
	second := trail.Op{Kind: trail.Say, A: 2, Value: "y"}
	ops := l.Ops()
	for i, all := 0, ops[:cap(ops)]; i < len(all); i++ {
		all[i] = trail.Op{Kind: 5}
	}
	noted(t, l, first, second)
	ops = l.Ops()
	l.Clear()
	l.Remove(1)
	if !slices.Equal(ops, []trail.Op{first, second}) {
		t.Errorf("the Ops became %+v", ops)
	}
	trail.Replay(some(), ops)
	trail.Count(ops, 1)
	if !slices.Equal(ops, []trail.Op{first, second}) {
		t.Errorf("the Ops became %+v", ops)
	}
}

// Two Logs over one Dom each record their own, and a Log over a Dom with nodes
// does not record these.
func TestTwoLogs(t *testing.T) {
	d := some()
	one, two := trail.On(d), trail.On(d)
	one.AddClass(1, "a")
	wants(t, "AddClass", two.AddClass(1, "a"), api.ErrArg)
	two.AddClass(1, "b")
	noted(t, one, trail.Op{Kind: trail.Class, A: 1, Name: "a"})
	noted(t, two, trail.Op{Kind: trail.Class, A: 1, Name: "b"})
	if n, _ := d.Get(1); strings.Join(n.Classes, " ") != "a b" {
		t.Errorf("the classes are %v", n.Classes)
	}
}

// P1: no call of a zero Log panics; it is one over a zero Dom.
func TestZero(t *testing.T) {
	for kind := trail.Element; kind <= trail.NoClass; kind++ {
		l, d := &trail.Log{}, &arena.Dom{}
		noted(t, l)
		same(t, l.Dom, d)
		if l.Within(0, 0) != d.Within(0, 0) || l.Index(0) != -1 {
			t.Error("Within and Index")
		}
		same(t, l.Clone(), d)
		for range 3 {
			c := call{kind: kind, name: "a", v: "x", one: 0, two: 1}
			id, e := c.do(l)
			should, wanted := c.do(d)
			if id != should || e != wanted {
				t.Errorf("%+v is %d %d, wanted %d %d", c, id, e, should, wanted)
			}
			same(t, l.Dom, d)
		}
		if n := len(l.Ops()); n != l.Count() {
			t.Errorf("%d Ops are recorded", n)
		}
		l.Clear()
		noted(t, l)
	}
	if n, e := trail.Replay(&arena.Dom{}, []trail.Op{{Kind: trail.Text, A: 1}, {Kind: trail.Insert, C: 1}, {Kind: trail.Remove, A: 2}}); n != 2 || e != api.ErrNode {
		t.Errorf("Replay on a zero Dom is %d %d", n, e)
	}
}
