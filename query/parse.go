package query

import (
	"strings"

	"scrim/api"
	"scrim/word"
)

// most is how many bytes a selector may have.
const most = 400

// ends are the bytes before which a tag, a class or a name ends.
const ends = " >.[]="

// reader is a text that is read. With an error its place is that of the error.
type reader struct {
	text string
	at   int
}

// Parse: a selector from a text, or where the text is wrong.
func Parse(s string) (Selector, int, api.Errno) {
	if len(s) > most {
		return nil, 0, api.ErrBig
	}
	r := &reader{text: s}
	parts, ok := r.selector()
	if !ok {
		return nil, r.at, api.ErrForm
	}
	return parts, 0, api.OK
}

// selector reads parts up to the end.
func (r *reader) selector() (Selector, bool) {
	var s Selector
	child := false
	r.spaces()
	for {
		p, ok := r.part()
		if !ok {
			return nil, false
		}
		p.Child = child
		s = append(s, p)
		spaced := r.spaces()
		if r.at == len(r.text) {
			return s, true
		}
		child = r.skip(">")
		if !child && !spaced {
			return nil, false
		}
		r.spaces()
	}
}

// part reads a part, which may not be empty.
func (r *reader) part() (Part, bool) {
	var p Part
	from := r.at
	if !r.tag(&p) {
		return p, false
	}
	for {
		ok := true
		switch {
		case r.skip("."):
			ok = r.class(&p)
		case r.skip("["):
			ok = r.pair(&p)
		default:
			return p, r.at > from
		}
		if !ok {
			return p, false
		}
	}
}

// tag reads a tag, if there is one.
func (r *reader) tag(p *Part) bool {
	if r.skip(anyTag) {
		p.Tag = anyTag
		return true
	}
	if r.upTo(ends) == "" {
		return true
	}
	var ok bool
	p.Tag, ok = r.name()
	return ok
}

// class reads what follows a period.
func (r *reader) class(p *Part) bool {
	name, ok := r.name()
	p.Classes = append(p.Classes, name)
	return ok
}

// pair reads what follows a [, and the ].
func (r *reader) pair(p *Part) bool {
	name, ok := r.name()
	if !ok {
		return false
	}
	pair := Pair{Name: name, Any: !r.skip("=")}
	if !pair.Any {
		pair.Value = r.upTo("]")
		if !word.Value(pair.Value) {
			return false
		}
		r.at += len(pair.Value)
	}
	p.Pairs = append(p.Pairs, pair)
	return r.skip("]")
}

// name reads a name, unless what there is is none.
func (r *reader) name() (string, bool) {
	s := r.upTo(ends)
	if !word.Name(s) {
		return "", false
	}
	r.at += len(s)
	return s, true
}

// upTo returns what there is before the first of some bytes, or up to the end.
func (r *reader) upTo(bytes string) string {
	rest := r.text[r.at:]
	if end := strings.IndexAny(rest, bytes); end >= 0 {
		return rest[:end]
	}
	return rest
}

// skip passes over a byte, if it is the next one.
func (r *reader) skip(b string) bool {
	is := strings.HasPrefix(r.text[r.at:], b)
	if is {
		r.at++
	}
	return is
}

// spaces passes over all spaces, and reports whether there are any.
func (r *reader) spaces() bool {
	from := r.at
	for r.skip(" ") {
	}
	return r.at > from
}
