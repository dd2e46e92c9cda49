package notation

import (
	"strings"

	"scrim/api"
	"scrim/view"
	"scrim/word"
)

// deepest is how many ( there may be within one another.
const deepest = 40

// fault is an error of a text, with its position.
type fault struct {
	at  int
	why api.Errno
}

// reader is a text, and how far it has been read. depth is how many ( are open.
type reader struct {
	text      string
	at, depth int
}

// refuse raises the fault that what is at a position may not be there.
func refuse(at int) { panic(fault{at, api.ErrForm}) }

// peek skips spaces and returns the byte that follows, or 0 at the end. No token
// begins with 0, so that the end is refused like a byte that begins none.
func (r *reader) peek() byte {
	for r.at < len(r.text) && r.text[r.at] == ' ' {
		r.at++
	}
	if r.at == len(r.text) {
		return 0
	}
	return r.text[r.at]
}

// end accepts nothing but spaces.
func (r *reader) end() {
	r.peek()
	if r.at < len(r.text) {
		refuse(r.at)
	}
}

func (r *reader) view() view.Node {
	switch r.peek() {
	case '\'':
		return view.Node{Kind: view.Text, Text: r.quoted()}
	case '(':
		return r.element()
	}
	refuse(r.at)
	return view.Node{}
}

// quoted reads a text between two '.
func (r *reader) quoted() string {
	s, _, closed := strings.Cut(r.text[r.at+1:], "'")
	if !closed || !word.Text(s) {
		refuse(r.at)
	}
	r.at += len(s) + 2
	return s
}

// element reads a node that is not a Text, from its ( to its ).
func (r *reader) element() view.Node {
	if r.depth == deepest {
		panic(fault{r.at, api.ErrDepth})
	}
	r.depth++
	r.at++
	d := r.begun()
	for r.peek() != ')' {
		r.item(d)
	}
	r.at++
	r.depth--
	return d.done()
}

// begun reads the tag.
func (r *reader) begun() *draft {
	r.peek()
	start := r.at
	tag := r.word()
	if !word.Name(tag) {
		refuse(start)
	}
	return newDraft(tag)
}

// item reads a kid or a word.
func (r *reader) item(d *draft) {
	if c := r.peek(); c == '(' || c == '\'' {
		d.node.Kids = append(d.node.Kids, r.view())
		return
	}
	start := r.at
	if !d.take(r.word()) {
		refuse(start)
	}
}

// word reads as many bytes of a word as there are, which may be none.
func (r *reader) word() string {
	start := r.at
	for r.at < len(r.text) && ofWord(r.text[r.at]) {
		r.at++
	}
	return r.text[start:r.at]
}

func ofWord(b byte) bool {
	return b > ' ' && b <= '~' && b != '\'' && b != '(' && b != ')'
}
