package query_test

import (
	"math/rand"
	"regexp"
	"slices"
	"strings"

	"scrim/api"
	"scrim/props"
	"scrim/query"
	"scrim/still"
)

var (
	nameForm  = regexp.MustCompile(`^[a-z][a-z0-9-]{0,15}$`)
	valueForm = regexp.MustCompile(`^[!-&*-\\^-~]{0,32}$`)
	token     = regexp.MustCompile(`^[^ >.\[\]=]*`)
	untilBack = regexp.MustCompile(`^[^\]]*`)
	blanks    = regexp.MustCompile(`^ *`)
)

// modelParse reads a selector as the chapter says, from position to position.
func modelParse(s string) (query.Selector, int, api.Errno) {
	if len(s) > 400 {
		return nil, 0, api.ErrBig
	}
	var sel query.Selector
	at, child := len(blanks.FindString(s)), false
	for {
		p, next, ok := modelPart(s, at)
		if !ok {
			return nil, next, api.ErrForm
		}
		p.Child = child
		sel = append(sel, p)
		at = next + len(blanks.FindString(s[next:]))
		child = at < len(s) && s[at] == '>'
		switch {
		case at == len(s):
			return sel, 0, api.OK
		case child:
			at += 1 + len(blanks.FindString(s[at+1:]))
		case at == next:
			return nil, at, api.ErrForm
		}
	}
}

// modelPart reads a part, and tells where it ends or where it is wrong.
func modelPart(s string, from int) (query.Part, int, bool) {
	var p query.Part
	at := from
	if strings.HasPrefix(s[at:], "*") {
		p.Tag, at = "*", at+1
	} else if word := token.FindString(s[at:]); word != "" {
		if !nameForm.MatchString(word) {
			return query.Part{}, at, false
		}
		p.Tag, at = word, at+len(word)
	}
	for at < len(s) && (s[at] == '.' || s[at] == '[') {
		word := token.FindString(s[at+1:])
		if !nameForm.MatchString(word) {
			return query.Part{}, at + 1, false
		}
		opens := s[at] == '['
		at += 1 + len(word)
		if !opens {
			p.Classes = append(p.Classes, word)
			continue
		}
		pair := query.Pair{Name: word, Any: true}
		if at < len(s) && s[at] == '=' {
			value := untilBack.FindString(s[at+1:])
			if !valueForm.MatchString(value) {
				return query.Part{}, at + 1, false
			}
			pair = query.Pair{Name: word, Value: value}
			at += 1 + len(value)
		}
		if at == len(s) || s[at] != ']' {
			return query.Part{}, at, false
		}
		p.Pairs, at = append(p.Pairs, pair), at+1
	}
	return p, at, at > from
}

// modelText writes a selector part by part.
func modelText(s query.Selector) string {
	text := ""
	for i, p := range s {
		switch {
		case i > 0 && p.Child:
			text += " > "
		case i > 0:
			text += " "
		}
		part := p.Tag + strings.Join(append([]string{""}, p.Classes...), ".")
		for _, pair := range p.Pairs {
			if part += "[" + pair.Name; !pair.Any {
				part += "=" + pair.Value
			}
			part += "]"
		}
		if part == "" {
			part = "*"
		}
		text += part
	}
	return text
}

// modelAll holds every node, with the way that leads to it, against the selector.
func modelAll(way []still.Tree, s query.Selector) []int {
	var ids []int
	last := way[len(way)-1]
	if modelMatches(way, s) {
		ids = append(ids, last.ID)
	}
	for _, kid := range last.Kids {
		ids = append(ids, modelAll(append(slices.Clone(way), kid), s)...)
	}
	return ids
}

func modelMatches(way []still.Tree, s query.Selector) bool {
	if len(s) == 0 || len(way) == 0 {
		return false
	}
	p, above := s[len(s)-1], way[:len(way)-1]
	if !modelFits(p, way[len(way)-1]) {
		return false
	}
	if len(s) == 1 {
		return true
	}
	if p.Child {
		return modelMatches(above, s[:len(s)-1])
	}
	for i := range above {
		if modelMatches(way[:i+1], s[:len(s)-1]) {
			return true
		}
	}
	return false
}

func modelFits(p query.Part, t still.Tree) bool {
	if t.Kind != 2 || p.Tag != "" && p.Tag != "*" && p.Tag != t.Tag {
		return false
	}
	for _, c := range p.Classes {
		if !slices.Contains(t.Classes, c) {
			return false
		}
	}
	for _, pair := range p.Pairs {
		has := false
		for _, a := range t.Attrs {
			has = has || a.Name == pair.Name && (pair.Any || a.Value == pair.Value)
		}
		if !has {
			return false
		}
	}
	return true
}

func choose[T any](r *rand.Rand, l ...T) T { return l[r.Intn(len(l))] }

// someTree is a tree by chance, with its own number for each node.
func someTree(r *rand.Rand, deep int, next *int) still.Tree {
	*next++
	t := still.Tree{ID: *next, Kind: choose(r, 2, 2, 2, 2, 1), Tag: choose(r, "a", "b", "*", "")}
	for range r.Intn(3) {
		t.Classes = append(t.Classes, choose(r, "x", "y", "t-z"))
	}
	for range r.Intn(3) {
		t.Attrs = t.Attrs.Set(choose(r, "k", "l"), choose(r, "", "1", "2"))
	}
	for range r.Intn(4) {
		if deep > 1 {
			t.Kids = append(t.Kids, someTree(r, deep-1, next))
		}
	}
	return t
}

// someSelector is a selector by chance; one that is written may also be parsed.
func someSelector(r *rand.Rand, most int) query.Selector {
	var s query.Selector
	for i := range r.Intn(most + 1) {
		p := query.Part{Tag: choose(r, "", "*", "a", "b"), Child: i > 0 && r.Intn(2) == 0}
		for range r.Intn(2) {
			p.Classes = append(p.Classes, choose(r, "x", "y", "t-z"))
		}
		for range r.Intn(6) / 4 {
			p.Pairs = append(p.Pairs, choose(r, query.Pair{Name: "k", Any: true}, query.Pair{Name: "l", Value: "1"}, query.Pair{Name: "k"}))
		}
		s = append(s, p)
	}
	return s
}

// same reports whether two selectors are equal; lists may be nil.
func same(a, b query.Selector) bool {
	return slices.EqualFunc(a, b, func(x, y query.Part) bool {
		return x.Tag == y.Tag && x.Child == y.Child && slices.Equal(x.Classes, y.Classes) && slices.Equal(x.Pairs, y.Pairs)
	})
}

// attrs are pairs of names and values.
func attrs(l ...string) props.Map[string] {
	var m props.Map[string]
	for i := 0; i < len(l); i += 2 {
		m = m.Set(l[i], l[i+1])
	}
	return m
}
