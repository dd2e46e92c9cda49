package engine

import (
	"scrim/api"
	"scrim/sat"
)

// bounds is how much there may be of everything, and how wide it is.
type bounds struct{ nodes, depth, ghosts, timers, width int }

// limited returns the bounds of a Config, each within its range.
func limited(c Config) bounds {
	return bounds{
		nodes:  sat.Clip(c.Nodes, 1, api.MaxNodes),
		depth:  sat.Clip(c.Depth, 1, api.MaxDepth),
		ghosts: sat.Clip(c.Ghosts, 0, api.MaxNodes),
		timers: sat.Clip(c.Timers, 0, api.MaxNodes),
		width:  c.Width,
	}
}

// exceeded returns the error of the first bound that so many nodes, ghosts and kids
// that are not at rest exceed.
func (b bounds) exceeded(nodes, ghosts, busy int) api.Errno {
	switch {
	case nodes > b.nodes:
		return api.ErrNodes
	case ghosts > b.ghosts:
		return api.ErrGhosts
	case busy > b.timers:
		return api.ErrTimers
	}
	return api.OK
}
