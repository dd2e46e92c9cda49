package tree

import (
	"scrim/api"
	"scrim/arena"
	"scrim/trail"
	"scrim/view"
)

// Make: items and loose nodes for a view. One that is not valid may ask for what no
// node can have: it is made of other nodes first, so that nothing is created then.
func Make(l *trail.Log, n view.Node) (*Item, api.Errno) {
	shown := n.Normal()
	size := shown.Size()
	if size > l.Room() {
		return nil, api.ErrNodes
	}
	if _, e := made(trail.On(arena.New(size)), shown); e != api.OK {
		return nil, e
	}
	return made(l, shown)
}

// made returns the item of a node, with everything below it up to the first error.
func made(l *trail.Log, n view.Node) (*Item, api.Errno) {
	x, e := single(l, n)
	if e == api.OK {
		e = x.grow(l, n.Kids)
	}
	return x, e
}

// single returns the item of a node without those below it.
func single(l *trail.Log, n view.Node) (*Item, api.Errno) {
	x, e := &Item{View: alone(n)}, api.OK
	if n.Kind == view.Text {
		x.ID, e = l.Text(n.Text)
		return x, e
	}
	x.ID, e = l.Element(n.Tag)
	if e == api.OK {
		e = x.paint(l)
	}
	return x, e
}

// grow creates the kids of an item. Each becomes its kid before those below it are
// created: this is the order of the changes.
func (x *Item) grow(l *trail.Log, kids []view.Node) api.Errno {
	for at, n := range kids {
		kid, e := single(l, n)
		if e != api.OK {
			return e
		}
		if e := l.Insert(x.ID, at, kid.ID); e != api.OK {
			return e
		}
		x.adopt(kid)
		if e := kid.grow(l, n.Kids); e != api.OK {
			return e
		}
	}
	return api.OK
}
