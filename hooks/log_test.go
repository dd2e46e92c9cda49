package hooks_test

import (
	"math"
	"math/rand"
	"slices"
	"strconv"
	"strings"
	"testing"

	"scrim/hooks"
)

// entry is a hook of a kid whose node does not matter.
func entry(group int, key string, hook int) hooks.Entry {
	return hooks.Entry{Group: group, Node: 40 + hook, Hook: hook, Key: key}
}

// P19.1: Of keeps groups and keys apart.
func TestOf(t *testing.T) {
	l := hooks.Log{
		entry(1, "a", beforeEnter), entry(1, "b", beforeLeave), entry(2, "a", enter), entry(1, "a", enter),
		entry(-1, "a", 77), entry(1, "", afterLeave), entry(1, "a", enter), entry(1, "A", leave), entry(1, "a ", leave), entry(11, "a", leave),
		{Group: 1, Node: 999, Hook: -5, Key: "a"},
	}
	for _, c := range []struct {
		group int
		key   string
		want  []int
	}{
		{1, "a", []int{beforeEnter, enter, enter, -5}},
		{1, "b", []int{beforeLeave}},
		{2, "a", []int{enter}},
		{-1, "a", []int{77}},
		{1, "", []int{afterLeave}},
		{2, "b", nil}, {0, "a", nil}, {0, "", nil}, {1, "ab", nil}, {math.MaxInt, "a", nil},
	} {
		if got := l.Of(c.group, c.key); !slices.Equal(got, c.want) {
			t.Errorf("Of %d %q is %v, wanted %v", c.group, c.key, got, c.want)
		}
	}
	if got := hooks.Log(nil).Of(0, ""); len(got) != 0 {
		t.Errorf("Of nothing is %v", got)
	}
}

// P19.1: Check looks at each key in each group on its own, whatever its node is.
func TestCheck(t *testing.T) {
	for _, c := range []struct {
		log  hooks.Log
		want bool
	}{
		{nil, true},
		{hooks.Log{}, true},
		{hooks.Log{entry(1, "a", beforeEnter), entry(1, "b", beforeLeave), entry(1, "a", enter)}, true},
		{hooks.Log{entry(1, "a", beforeEnter), entry(1, "a", beforeLeave), entry(1, "a", enter)}, false},
		{hooks.Log{entry(1, "a", beforeEnter), entry(2, "a", beforeLeave), entry(1, "a", enter), entry(2, "a", leave)}, true},
		{hooks.Log{entry(1, "a", beforeEnter), entry(2, "a", enter)}, false},
		{hooks.Log{entry(1, "a", beforeEnter), entry(1, "b", enter)}, false},
		{hooks.Log{entry(1, "a", enter)}, false},
		{hooks.Log{entry(1, "a", 0)}, false},
		{hooks.Log{entry(1, "a", 9)}, false},
		{hooks.Log{entry(1, "a", beforeLeave), entry(1, "b", -1)}, false},
		{hooks.Log{{Group: 1, Node: 2, Hook: beforeEnter, Key: "a"}, {Group: 1, Node: 9, Hook: enter, Key: "a"}}, true},
		{hooks.Log{{Group: 1, Node: 2, Hook: beforeEnter, Key: "a"}, {Group: 1, Node: 9, Hook: beforeEnter, Key: "a"}}, false},
		{hooks.Log{entry(1, "", beforeEnter), entry(0, "", beforeEnter)}, true},
		{hooks.Log{entry(1, "1a", beforeEnter), entry(11, "a", beforeEnter), entry(-1, "1a", beforeEnter)}, true},
		// What leads nowhere is not taken up again by a hook with which a kid may begin.
		{hooks.Log{entry(1, "a", enter), entry(1, "a", beforeEnter), entry(1, "a", enter)}, false},
		{hooks.Log{entry(1, "b", leave), entry(1, "a", beforeEnter), entry(1, "a", enter)}, false},
	} {
		if got := c.log.Check(); got != c.want {
			t.Errorf("Check of %v is %v", c.log, got)
		}
	}
}

// P19.1: lines of an entry each.
func TestText(t *testing.T) {
	for want, log := range map[string]hooks.Log{
		"": nil,
		"1 a 4 before-enter\n1 b 5 before-leave\n1 a 4 enter\n": {
			{Group: 1, Node: 4, Hook: beforeEnter, Key: "a"}, {Group: 1, Node: 5, Hook: beforeLeave, Key: "b"}, {Group: 1, Node: 4, Hook: enter, Key: "a"},
		},
		"0  0 0\n": {{}},
		"-3 a b -4 9\n9223372036854775807 ' 1 -9223372036854775808\n": {
			{Group: -3, Node: -4, Hook: 9, Key: "a b"}, {Group: math.MaxInt, Node: 1, Hook: math.MinInt, Key: "'"},
		},
		"1 \n\xff\x00 2 -1\n": {{Group: 1, Node: 2, Hook: -1, Key: "\n\xff\x00"}},
		"7 k 8 after-enter\n7 k 8 enter-cancelled\n7 k 8 leave\n7 k 8 after-leave\n7 k 8 leave-cancelled\n": {
			{7, 8, afterEnter, "k"}, {7, 8, enterCancelled, "k"}, {7, 8, leave, "k"}, {7, 8, afterLeave, "k"}, {7, 8, leaveCancelled, "k"},
		},
	} {
		if got := log.Text(); got != want {
			t.Errorf("Text is %q, wanted %q", got, want)
		}
	}
}

// some returns a Log of a few kids, most of whose hooks are permitted.
func some(r *rand.Rand) hooks.Log {
	var l hooks.Log
	names := []string{"", "a", "b", "a b"}
	wrong := r.Intn(2) * 15
	for range r.Intn(30) {
		e := hooks.Entry{Group: r.Intn(3) - 1, Node: r.Intn(9), Key: names[r.Intn(len(names))]}
		before := of(l, e.Group, e.Key)
		for e.Hook = 1 + r.Intn(8); lead(append(before, e.Hook)) < 0 && lead(before) >= 0; {
			e.Hook = 1 + r.Intn(8)
		}
		if wrong > 0 && r.Intn(wrong) == 0 {
			e.Hook = r.Intn(12) - 1
		}
		l = append(l, e)
	}
	return l
}

// of is Of, spelt out independently of the program.
func of(l hooks.Log, group int, key string) []int {
	var list []int
	for i := range l {
		if l[i].Group == group && l[i].Key == key {
			list = append(list, l[i].Hook)
		}
	}
	return list
}

// P19.1: all of it for logs of many kids, of which some are permitted.
func TestManyKids(t *testing.T) {
	r := rand.New(rand.NewSource(19))
	count := map[bool]int{}
	for range 6000 {
		l := some(r)
		kept := slices.Clone(l)
		want := true
		lines := []string{}
		for _, e := range l {
			list := of(l, e.Group, e.Key)
			want = want && lead(list) >= 0
			if got := l.Of(e.Group, e.Key); !slices.Equal(got, list) {
				t.Fatalf("Of %d %q in %v is %v", e.Group, e.Key, l, got)
			}
			name := hooks.Name(e.Hook)
			if name == "" {
				name = strconv.Itoa(e.Hook)
			}
			lines = append(lines, strings.Join([]string{strconv.Itoa(e.Group), e.Key, strconv.Itoa(e.Node), name}, " "), "\n")
		}
		if got := l.Check(); got != want {
			t.Fatalf("Check of %v is %v", l, got)
		}
		if got := l.Text(); got != strings.Join(lines, "") {
			t.Fatalf("Text of %v is %q", l, got)
		}
		if !slices.Equal(l, kept) {
			t.Fatalf("%v has become %v", kept, l)
		}
		count[want]++
	}
	if count[true] < 1000 || count[false] < 1000 {
		t.Errorf("too few of one kind: %v", count)
	}
}

// P1 and rule 6: long logs, of one kid and of many.
func TestLong(t *testing.T) {
	round := []int{beforeEnter, enter, afterEnter, beforeLeave, leave, leaveCancelled}
	var one, many hooks.Log
	for i := range 60000 {
		one = append(one, entry(1, "a", round[i%6]))
		many = append(many, entry(i%1000, "a", round[i/1000%6]))
	}
	if !one.Check() || !many.Check() || hooks.Run(one.Of(1, "a")...) != out || len(many.Of(7, "a")) != 60 {
		t.Error("a long log is not permitted")
	}
	one, many = append(one, entry(1, "a", beforeLeave)), append(many, entry(7, "a", enter))
	if one.Check() || many.Check() || hooks.Run(one.Of(1, "a")...) != -1 {
		t.Error("the end of a long log is not looked at")
	}
	if got := strings.Count(many.Text(), "\n"); got != 60001 {
		t.Errorf("%d lines", got)
	}
}

// Rule 5: nothing that is passed changes, and results are new memory.
func TestMemory(t *testing.T) {
	list := []int{beforeEnter, enter, 3, 4}
	hooks.Run(list[:2]...)
	if !slices.Equal(list, []int{1, 2, 3, 4}) {
		t.Errorf("Run has changed %v", list)
	}
	l := hooks.Log{entry(1, "a", 1), entry(1, "a", 2), entry(1, "a", 3)}
	kept := slices.Clone(l)
	first := l[:2].Of(1, "a")
	clear(first[:cap(first)])
	if got := l[:2].Of(1, "a"); !slices.Equal(got, []int{1, 2}) {
		t.Errorf("Of is %v", got)
	}
	l[:2].Check()
	l[:2].Text()
	if !slices.Equal(l, kept) {
		t.Errorf("the log has become %v", l)
	}
}
