package graph

import (
	"watershed/api"
	"watershed/path"
	"watershed/stamp"
)

// input is the place where an operator takes in.
func input(op int) int { return 2 * op }

// output is the place where an operator gives out.
func output(op int) int { return 2*op + 1 }

// isOp tells whether there is such an operator.
func isOp(g Graph, op int) bool { return 0 <= op && op < len(g.Ops) }

// isPlace tells whether there is such a place.
func isPlace(g Graph, loc int) bool { return 0 <= loc && loc < input(len(g.Ops)) }

// depthOf is how many loops a loop is in, itself among them; 0 for none.
func depthOf(g Graph, loop int) int {
	depth := 0
	for ; loop != noLoop; loop = g.Loops[loop].Up {
		depth++
	}
	return depth
}

// loopAt is the loop of a place that there is.
func loopAt(g Graph, loc int) int {
	op := loc / 2
	o := g.Ops[op]
	// What leads into a loop takes in outside of it, and what leads out of it gives out there.
	if o.Kind == Enter && loc == input(op) || o.Kind == Leave && loc == output(op) {
		return g.Loops[o.Loop].Up
	}
	return o.Loop
}

// Scope is the loop of a place (below nought: none), and how many loops that is in.
func Scope(g Graph, loc int) (int, int, api.Errno) {
	if e := Check(g); e != api.OK {
		return 0, 0, e
	}
	if !isPlace(g, loc) {
		return 0, 0, api.ErrRange
	}
	loop := loopAt(g, loc)
	return loop, depthOf(g, loop), api.OK
}

// Inner is the way through an operator.
func Inner(g Graph, op int) (path.Path, api.Errno) {
	if e := Check(g); e != api.OK {
		return path.Path{}, e
	}
	if !isOp(g, op) {
		return path.Path{}, api.ErrRange
	}
	depth := depthOf(g, loopAt(g, input(op)))
	switch g.Ops[op].Kind {
	case Enter:
		return path.Enter(depth)
	case Leave:
		return path.Leave(depth)
	case Next:
		return path.Next(depth)
	case Delay:
		return path.Later(depth, uint32(g.Ops[op].A))
	}
	return path.Stay(depth)
}

// Fits tells whether a time may be at a place.
func Fits(g Graph, loc int, t api.Time) bool {
	loop, depth, e := Scope(g, loc)
	if e != api.OK || stamp.Check(t) != api.OK || t.Depth != depth {
		return false
	}
	// From the innermost loop on, whose round is the last one.
	for ; loop != noLoop; loop = g.Loops[loop].Up {
		depth--
		if int(t.Loop[depth]) >= g.Loops[loop].Rounds {
			return false
		}
	}
	return true
}

// Flows is the channels that lead from one cluster to another one.
func Flows(g Graph) []int {
	if Check(g) != api.OK {
		return nil
	}
	var flows []int
	for i, c := range g.Channels {
		if g.Ops[c.From].At != g.Ops[c.To].At {
			flows = append(flows, i)
		}
	}
	return flows
}
