package reach

import (
	"iter"
	"slices"

	"watershed/api"
	"watershed/graph"
	"watershed/path"
)

// input is the place where an operator takes in.
func input(op int) int { return 2 * op }

// output is the place where an operator gives out.
func output(op int) int { return 2*op + 1 }

// places is how many places a graph has.
func places(g graph.Graph) int { return 2 * len(g.Ops) }

// way is a path from a place to a place.
type way struct {
	from, to int
	p        path.Path
}

// search is what is known of the ways through a graph while they are extended.
type search struct {
	g graph.Graph
	// through are the paths through each operator, and behind those that lead on from its output.
	through, behind []path.Path
	// paths are the minimal ones so far, by where they come from, and then by where they lead.
	paths [][][]path.Path
	// fresh are the ways that are not extended yet.
	fresh []way
}

// minimal are the minimal ways through a graph, by where they come from, and then by where they lead.
func minimal(g graph.Graph) ([][][]path.Path, api.Errno) {
	s := &search{g: g}
	if e := s.start(); e != api.OK {
		return nil, e
	}
	for len(s.fresh) > 0 {
		// The oldest one first: ways grow everywhere by a step at a time, so that a cycle that does not rise is told after as many steps as it has.
		w := s.fresh[0]
		s.fresh = s.fresh[1:]
		if e := s.extend(w); e != api.OK {
			return nil, e
		}
	}
	for _, row := range s.paths {
		for _, l := range row {
			slices.SortFunc(l, path.Compare)
		}
	}
	return s.paths, api.OK
}

// start finds the ways of no steps, and what each operator does.
func (s *search) start() api.Errno {
	for range places(s.g) {
		s.paths = append(s.paths, make([][]path.Path, places(s.g)))
	}
	for op := range s.g.Ops {
		through, e := graph.Inner(s.g, op)
		if e != api.OK {
			return e
		}
		ahead, e := path.Stay(through.From)
		if e != api.OK {
			return e
		}
		behind, e := path.Stay(path.To(through))
		if e != api.OK {
			return e
		}
		s.through = append(s.through, through)
		s.behind = append(s.behind, behind)
		s.add(way{input(op), input(op), ahead})
		s.add(way{output(op), output(op), behind})
	}
	return api.OK
}

// add keeps a way that no other one is ahead of, and no longer those that it is ahead of.
func (s *search) add(w way) {
	kept := slices.DeleteFunc(s.paths[w.from][w.to], func(p path.Path) bool { return path.LE(w.p, p) })
	s.paths[w.from][w.to] = append(kept, w.p)
	s.fresh = append(s.fresh, w)
}

// steps are where a step leads from a place, and the path of that step.
func (s *search) steps(loc int) iter.Seq2[int, path.Path] {
	return func(yield func(to int, p path.Path) bool) {
		op := loc / 2
		if loc == input(op) {
			yield(output(op), s.through[op])
			return
		}
		for _, c := range s.g.Channels {
			if c.From == op && !yield(input(c.To), s.behind[op]) {
				return
			}
		}
	}
}

// extend finds the ways that are a step longer than another one; it tells a way back that does not rise.
func (s *search) extend(w way) api.Errno {
steps:
	for to, step := range s.steps(w.to) {
		p, e := path.Then(w.p, step)
		if e != api.OK {
			// A sum that is too great: there is no such path.
			continue
		}
		// Asked ahead of the paths that are LE it: to stay is LE each way back, but no step.
		if to == w.from && !path.Rises(p) {
			return api.ErrCycle
		}
		for _, q := range s.paths[w.from][to] {
			if path.LE(q, p) {
				continue steps
			}
		}
		s.add(way{w.from, to, p})
	}
	return api.OK
}
