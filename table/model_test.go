package table

import (
	"fmt"
	"math"
	"slices"
	"strings"

	"watershed/api"
	"watershed/graph"
)

// graphOf is a graph with clusters of these names.
func graphOf(names ...string) graph.Graph {
	g := graph.Graph{Ops: []graph.Op{{Name: "x", Kind: graph.Input, Loop: -1}}}
	for _, name := range names {
		g.Clusters = append(g.Clusters, graph.Cluster{Name: name, Workers: 1})
	}
	return g
}

// two is the graph of the chapter's example, and four one with as many clusters as there may be.
func two() graph.Graph { return graphOf("a", "b") }

func four() graph.Graph { return graphOf("a", "b", "c3", "thelongest12") }

// small is the plan of the chapter's example.
func small() Plan { return Plan{Relays: []string{"r"}, Routes: []Route{{0, 1, []int{0}}}} }

// greatest is a plan for four whose lists are as long as they may be, with routes over none of the relays and over up to all of them.
func greatest() Plan {
	return Plan{
		Relays: []string{"r", "s", "t7", "alsolongest1"},
		Routes: []Route{
			{0, 1, []int{0}}, {0, 2, []int{1, 0}}, {0, 3, nil}, {1, 0, []int{3, 2, 1, 0}},
			{1, 2, []int{2, 3}}, {1, 3, []int{0, 1, 2, 3}}, {2, 0, []int{1, 0}}, {2, 1, []int{3}},
			{2, 3, []int{}}, {3, 0, []int{2, 0, 3}}, {3, 1, []int{1}}, {3, 2, []int{2}},
		},
	}
}

// cloneOf is a plan of its own.
func cloneOf(p Plan) Plan {
	c := Plan{Relays: slices.Clone(p.Relays), Routes: slices.Clone(p.Routes)}
	for i, r := range c.Routes {
		c.Routes[i].Via = slices.Clone(r.Via)
	}
	return c
}

// same tells whether two plans have the same elements.
func same(p, q Plan) bool {
	return slices.Equal(p.Relays, q.Relays) && slices.EqualFunc(p.Routes, q.Routes, func(r, s Route) bool {
		return r.From == s.From && r.To == s.To && slices.Equal(r.Via, s.Via)
	})
}

// isName tells whether a text is a name, as the chapter of the words defines it.
func isName(s string) bool {
	const letters, digits = "abcdefghijklmnopqrstuvwxyz", "0123456789"
	return len(s) >= 1 && len(s) <= 12 && strings.Trim(s, letters+digits) == "" && strings.Contains(letters, s[:1])
}

// wantCheck is what Check should return, word by word as the chapter says it.
func wantCheck(p Plan, g graph.Graph) api.Errno {
	if e := graph.Check(g); e != api.OK {
		return e
	}
	if len(p.Relays) > 4 || len(p.Routes) > 12 {
		return api.ErrLong
	}
	seen := map[string]bool{}
	for _, c := range g.Clusters {
		seen[c.Name] = true
	}
	for _, name := range p.Relays {
		if !isName(name) {
			return api.ErrField
		}
		if seen[name] {
			return api.ErrTwice
		}
		seen[name] = true
	}
	ways := map[[2]int]bool{}
	for _, r := range p.Routes {
		if e := wantRoute(p, g, r, ways); e != api.OK {
			return e
		}
		ways[[2]int{r.From, r.To}] = true
	}
	return api.OK
}

// wantRoute is what Check should find wrong with a route, behind others between these clusters.
func wantRoute(p Plan, g graph.Graph, r Route, ways map[[2]int]bool) api.Errno {
	if r.From < 0 || r.From > len(g.Clusters)-1 || r.To < 0 || r.To > len(g.Clusters)-1 || r.From == r.To {
		return api.ErrRange
	}
	for _, relay := range r.Via {
		if relay < 0 || relay > len(p.Relays)-1 {
			return api.ErrRange
		}
	}
	if ways[[2]int{r.From, r.To}] {
		return api.ErrTwice
	}
	times := map[int]int{}
	for _, relay := range r.Via {
		times[relay]++
		if times[relay] == 2 {
			return api.ErrTwice
		}
	}
	return api.OK
}

// wantWay is what Way should return.
func wantWay(p Plan, g graph.Graph, from, to int) ([]int, api.Errno) {
	if e := wantCheck(p, g); e != api.OK {
		return nil, e
	}
	n := len(g.Clusters)
	if from < 0 || from >= n || to < 0 || to >= n || from == to {
		return nil, api.ErrRange
	}
	way := []int{from}
	for _, r := range p.Routes {
		if r.From == from && r.To == to {
			for _, relay := range r.Via {
				way = append(way, n+relay)
			}
		}
	}
	return append(way, to), api.OK
}

// wantBeside is what Next should return, or, of a way turned round, Ahead.
func wantBeside(way []int, e api.Errno, at int) (int, api.Errno) {
	if e != api.OK {
		return 0, e
	}
	for i := 1; i < len(way); i++ {
		if way[i-1] == at {
			return way[i], api.OK
		}
	}
	return 0, api.ErrNone
}

// turned is a list turned round.
func turned(l []int) []int {
	l = slices.Clone(l)
	slices.Reverse(l)
	return l
}

// wantText is what Text should return.
func wantText(p Plan, g graph.Graph) (string, api.Errno) {
	if e := wantCheck(p, g); e != api.OK {
		return "", e
	}
	s := ""
	for _, name := range p.Relays {
		s += "relay " + name + "\n"
	}
	for _, r := range p.Routes {
		s += "route " + g.Clusters[r.From].Name + " " + g.Clusters[r.To].Name + " via"
		for _, relay := range r.Via {
			s += " " + p.Relays[relay]
		}
		s += "\n"
	}
	return s, api.OK
}

// wantParse is what Parse should return of lines of words.
func wantParse(lines [][]string, g graph.Graph) (Plan, int, api.Errno) {
	if e := graph.Check(g); e != api.OK {
		return Plan{}, 0, e
	}
	var p Plan
	for i, w := range lines {
		if e := wantLine(&p, g, w); e != api.OK {
			return Plan{}, i + 1, e
		}
	}
	if e := wantCheck(p, g); e != api.OK {
		return Plan{}, 0, e
	}
	return p, 0, api.OK
}

// wantLine adds to a plan what a line's words say, or is what Parse should find wrong with them.
func wantLine(p *Plan, g graph.Graph, w []string) api.Errno {
	switch {
	case len(w) == 0:
		return api.OK
	case w[0] == "relay":
		if len(w) != 2 {
			return api.ErrField
		}
		p.Relays = append(p.Relays, w[1])
		return api.OK
	case w[0] != "route":
		return api.ErrCommand
	case len(w) < 4:
		return api.ErrField
	}
	var clusters []string
	for _, c := range g.Clusters {
		clusters = append(clusters, c.Name)
	}
	r := Route{From: slices.Index(clusters, w[1]), To: slices.Index(clusters, w[2])}
	if r.From == -1 || r.To == -1 {
		return api.ErrNone
	}
	if w[3] != "via" {
		return api.ErrField
	}
	for _, name := range w[4:] {
		relay := slices.Index(p.Relays, name)
		if relay == -1 {
			return api.ErrNone
		}
		r.Via = append(r.Via, relay)
	}
	p.Routes = append(p.Routes, r)
	return api.OK
}

// extremes are numbers that are no end's, some of which look like an end's in 32 bits or fewer.
var extremes = []int{math.MinInt, math.MinInt + 1, -1 << 32, -256, -2, -1, 8, 256, 257, 1 << 16, 1 << 31, 1 << 32, 1<<32 + 1, 1<<40 + 2, math.MaxInt}

// fault is one thing that is wrong, and the error that says so.
type fault struct {
	what  string
	e     api.Errno
	spoil func(p *Plan, g *graph.Graph)
}

// faults are things that may be wrong with greatest and four, in the order in which they should be found.
func faults() []fault {
	var l []fault
	add := func(e api.Errno, what string, spoil func(p *Plan, g *graph.Graph)) {
		l = append(l, fault{what, e, spoil})
	}
	add(api.ErrLong, "a loop too many", func(_ *Plan, g *graph.Graph) { g.Loops = make([]graph.Loop, 7) })
	add(api.ErrField, "a cluster without a name", func(_ *Plan, g *graph.Graph) { g.Clusters[2].Name = "" })
	add(api.ErrRange, "a cluster without workers", func(_ *Plan, g *graph.Graph) { g.Clusters[3].Workers = 0 })
	add(api.ErrCommand, "an operator of no kind", func(_ *Plan, g *graph.Graph) { g.Ops[0].Kind = 15 })
	add(api.ErrDepth, "an operator that may be in no loop", func(_ *Plan, g *graph.Graph) {
		g.Ops[0].Loop = 0
		g.Loops = []graph.Loop{{Name: "l", Up: -1, Rounds: 1}}
	})
	// Each of the two lists that may be too long.
	add(api.ErrLong, "a relay too many", func(p *Plan, _ *graph.Graph) { p.Relays = append(p.Relays, "u") })
	add(api.ErrLong, "a route too many", func(p *Plan, _ *graph.Graph) { p.Routes = append(p.Routes, Route{}) })
	for i := range 4 {
		add(api.ErrField, fmt.Sprint("no name, relay ", i), func(p *Plan, _ *graph.Graph) { p.Relays[i] = "7" })
		add(api.ErrTwice, fmt.Sprint("the name of a cluster, relay ", i), func(p *Plan, g *graph.Graph) { p.Relays[i] = g.Clusters[3-i].Name })
	}
	for i := range 12 {
		add(api.ErrRange, fmt.Sprint("From, route ", i), func(p *Plan, _ *graph.Graph) { p.Routes[i].From = 4 })
		add(api.ErrRange, fmt.Sprint("To, route ", i), func(p *Plan, _ *graph.Graph) { p.Routes[i].To = -1 })
		add(api.ErrRange, fmt.Sprint("Via, route ", i), func(p *Plan, _ *graph.Graph) { p.Routes[i].Via = append(p.Routes[i].Via, 4) })
		add(api.ErrTwice, fmt.Sprint("a relay twice, route ", i), func(p *Plan, _ *graph.Graph) { p.Routes[i].Via = append(p.Routes[i].Via, 2, 2) })
	}
	return l
}
