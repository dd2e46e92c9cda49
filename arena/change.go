package arena

import (
	"scrim/api"
	"scrim/classes"
	"scrim/sat"
	"scrim/word"
)

// SetTag: an Element has another tag.
func (d *Dom) SetTag(id int, tag string) api.Errno {
	n, e := d.named(id, tag)
	if e != api.OK {
		return e
	}
	n.Tag = tag
	return api.OK
}

// SetText: a Text has another text.
func (d *Dom) SetText(id int, s string) api.Errno {
	n, e := d.inner(id, Text)
	if e != api.OK {
		return e
	}
	n.Text = s
	return api.OK
}

// SetAttr: an attribute has this value.
func (d *Dom) SetAttr(id int, name, v string) api.Errno {
	n, e := d.named(id, name)
	if e != api.OK {
		return e
	}
	n.Attrs = n.Attrs.Set(name, v)
	return api.OK
}

// DropAttr: one attribute less.
func (d *Dom) DropAttr(id int, name string) api.Errno {
	n, e := d.named(id, name)
	if e != api.OK {
		return e
	}
	if _, there := n.Attrs.Get(name); !there {
		return api.ErrArg
	}
	n.Attrs = n.Attrs.Drop(name)
	return api.OK
}

// SetStyle: a style has this number, limited to 32 bits.
func (d *Dom) SetStyle(id int, name string, n int) api.Errno {
	node, e := d.named(id, name)
	if e != api.OK {
		return e
	}
	node.Styles = node.Styles.Set(name, sat.Sat(n))
	return api.OK
}

// DropStyle: one style less.
func (d *Dom) DropStyle(id int, name string) api.Errno {
	n, e := d.named(id, name)
	if e != api.OK {
		return e
	}
	if _, there := n.Styles.Get(name); !there {
		return api.ErrArg
	}
	n.Styles = n.Styles.Drop(name)
	return api.OK
}

// AddClass: one class more, the last one.
func (d *Dom) AddClass(id int, c string) api.Errno {
	n, e := d.named(id, c)
	if e != api.OK {
		return e
	}
	if classes.Has(n.Classes, c) {
		return api.ErrArg
	}
	n.Classes = classes.Add(n.Classes, c)
	return api.OK
}

// DropClass: one class less.
func (d *Dom) DropClass(id int, c string) api.Errno {
	n, e := d.named(id, c)
	if e != api.OK {
		return e
	}
	if !classes.Has(n.Classes, c) {
		return api.ErrArg
	}
	n.Classes = classes.Drop(n.Classes, c)
	return api.OK
}

// named returns an Element that may be changed in what has this name, or the
// first error that the changes of Elements share.
func (d *Dom) named(id int, name string) (*Node, api.Errno) {
	n, e := d.inner(id, Element)
	if e == api.OK && !word.Name(name) {
		return nil, api.ErrForm
	}
	return n, e
}

// inner returns a node of the kind that is not the root, or the first error that
// all changes share.
func (d *Dom) inner(id, kind int) (*Node, api.Errno) {
	n := d.find(id)
	switch {
	case n == nil:
		return nil, api.ErrNode
	case id == root:
		return nil, api.ErrArg
	case n.Kind != kind:
		return nil, api.ErrKind
	}
	return n, api.OK
}
