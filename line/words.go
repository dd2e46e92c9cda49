package line

import (
	"iter"
	"slices"
	"strings"

	"scrim/api"
	"scrim/notation"
	"scrim/query"
	"scrim/word"
)

// What the arguments of a word are.
const (
	numbers = iota
	aView
	aSelector
)

// args is what belongs to a word: so many numbers, or something else.
type args struct{ what, count int }

// table has the arguments of each word.
func table() map[string]args {
	return map[string]args{
		"mount": {what: aView}, "render": {what: aView}, "find": {what: aSelector},
		"tick": {count: 1}, "end": {count: 1}, "cancel": {count: 1}, "look": {count: 1}, "engine": {count: 5},
		"unmount": {}, "frame": {}, "show": {}, "erased": {}, "view": {}, "rects": {},
		"hooks": {}, "pending": {}, "clock": {}, "audit": {}, "rest": {},
	}
}

// Words: all.
func Words() []string {
	var l []string
	for name := range table() {
		l = append(l, name)
	}
	slices.Sort(l)
	return l
}

// Needs: how many numbers belong to a word.
func Needs(word string) int { return table()[word].count }

// read returns a step with the arguments that are written behind its word.
func (a args) read(s string) (x Step, e api.Errno) {
	switch a.what {
	case aView:
		x.View, _, e = notation.Parse(s)
	case aSelector:
		x.Sel, _, e = query.Parse(s)
	default:
		x.N, e = counted(s, a.count)
	}
	return x, e
}

// counted reads so many numbers that are not negative, and nothing else.
func counted(s string, count int) ([]int, api.Errno) {
	var l []int
	for part := range parts(s) {
		n, is := word.Number(part)
		if !is || n < 0 {
			return nil, api.ErrForm
		}
		l = append(l, n)
	}
	if len(l) != count {
		return nil, api.ErrForm
	}
	return l, api.OK
}

// parts are what stands between spaces.
func parts(s string) iter.Seq[string] {
	return func(yield func(string) bool) {
		for rest := s; rest != ""; {
			part, next, _ := strings.Cut(rest, " ")
			if part != "" && !yield(part) {
				return
			}
			rest = next
		}
	}
}
