package audit

import (
	"slices"

	"scrim/dress"
	"scrim/still"
)

// dressed reports whether a node has the reserved classes and the offsets of its look.
func (k Kid) dressed(n still.Tree) bool {
	return slices.Equal(reserved(n.Classes), k.Look.Classes()) && k.displaced(n)
}

// reserved returns the classes that are reserved: those of which Take leaves nothing.
func reserved(classes []string) []string {
	return slices.DeleteFunc(slices.Clone(classes), func(c string) bool {
		return len(dress.Take(dress.Own{Classes: []string{c}}).Classes) > 0
	})
}

// displaced reports whether a node has the offsets that a look puts on it if it is
// Away, and otherwise none of these styles.
func (k Kid) displaced(n still.Tree) bool {
	away := dress.Look{Move: dress.Away, DX: k.Look.DX, DY: k.Look.DY}
	for _, offset := range away.Put(dress.Own{}).Styles {
		value, has := n.Styles.Get(offset.Name)
		if has != (k.Look.Move == dress.Away) || has && value != offset.Value {
			return false
		}
	}
	return true
}

// ghostly reports whether a node is marked as a ghost, and so is not left when it is
// Erased. Its kids would be Erased in vain.
func ghostly(n still.Tree) bool {
	_, left := still.Tree{Attrs: n.Attrs}.Erase()
	return !left
}
