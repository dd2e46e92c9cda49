package notation

import (
	"strings"

	"scrim/props"
	"scrim/view"
	"scrim/word"
)

// draft is a node of which not all items have been read, and what may not occur
// in it once more.
type draft struct {
	node view.Node
	once map[string]struct{}
}

func newDraft(tag string) *draft {
	return &draft{node: view.Node{Kind: view.Element, Tag: tag}, once: map[string]struct{}{}}
}

// done returns the node, with Maps that have their form.
func (d *draft) done() view.Node {
	n := d.node
	n.Attrs, n.Styles = props.Of(n.Attrs...), props.Of(n.Styles...)
	return n
}

// first reports whether something occurs for the first time. Kinds of items are
// told apart by what they begin with: a name begins with a letter.
func (d *draft) first(what string) bool {
	_, there := d.once[what]
	d.once[what] = struct{}{}
	return !there
}

// take adds a word to the node, and reports whether it is permitted. A node with
// one that is not permitted is never used.
func (d *draft) take(w string) bool {
	if w == "" {
		return false
	}
	switch w[0] {
	case '#':
		return d.key(w[1:])
	case '.':
		return d.class(w[1:])
	case '@':
		return d.attr(w[1:])
	case '!':
		return d.option(w[1:])
	}
	return d.style(w)
}

func (d *draft) key(s string) bool {
	d.node.Key = s
	return word.Key(s) && d.first("#")
}

func (d *draft) class(s string) bool {
	d.node.Classes = append(d.node.Classes, s)
	return word.Name(s)
}

func (d *draft) attr(s string) bool {
	name, v, paired := strings.Cut(s, "=")
	d.node.Attrs = append(d.node.Attrs, props.Pair[string]{Name: name, Value: v})
	return paired && word.Name(name) && word.Value(v) && d.first("@"+name)
}

// style needs no look at whether there is a =, for nothing is not a number.
func (d *draft) style(s string) bool {
	name, v, _ := strings.Cut(s, "=")
	n, is := word.Number(v)
	d.node.Styles = append(d.node.Styles, props.Pair[int]{Name: name, Value: n})
	return is && word.Name(name) && d.first(name)
}

func (d *draft) option(s string) bool {
	switch s {
	case "group":
		return d.kind(view.Group)
	case "slot":
		return d.kind(view.Slot)
	case "out-in":
		return d.mode(view.OutIn)
	case "in-out":
		return d.mode(view.InOut)
	case "appear":
		d.node.Opts.Appear = true
		return d.first("!appear")
	case "moves":
		d.node.Opts.Moves = true
		return d.first("!moves")
	}
	return d.duration(s)
}

func (d *draft) kind(kind int) bool {
	d.node.Kind = kind
	return d.first("!kind")
}

func (d *draft) mode(mode int) bool {
	d.node.Opts.Mode = mode
	return d.first("!mode")
}

func (d *draft) duration(s string) bool {
	name, v, _ := strings.Cut(s, "=")
	n, is := word.Number(v)
	switch name {
	case "enter":
		d.node.Opts.Enter = n
	case "leave":
		d.node.Opts.Leave = n
	case "move":
		d.node.Opts.Move = n
	default:
		return false
	}
	return is && d.first("!"+name)
}
