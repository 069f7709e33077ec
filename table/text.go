package table

import (
	"strings"

	"watershed/api"
	"watershed/graph"
	"watershed/words"
)

// The words of a plan's lines.
const (
	relayWord = "relay"
	routeWord = "route"
	viaWord   = "via"
)

// draft is a plan that is being parsed, the graph that it is for, and where in its list the relays' names are.
type draft struct {
	p      Plan
	g      graph.Graph
	relays map[string]int
}

// Parse is the plan of a text for a graph, and the line that is wrong.
func Parse(s string, g graph.Graph) (Plan, int, api.Errno) {
	if e := graph.Check(g); e != api.OK {
		return Plan{}, 0, e
	}
	d := draft{g: g, relays: map[string]int{}}
	for i, l := range words.Lines(s) {
		if e := d.add(words.Split(l)); e != api.OK {
			return Plan{}, i + 1, e
		}
	}
	if e := Check(d.p, g); e != api.OK {
		return Plan{}, 0, e
	}
	return d.p, 0, api.OK
}

// add adds what the words of a line say.
func (d *draft) add(w []string) api.Errno {
	if len(w) == 0 {
		return api.OK
	}
	switch w[0] {
	case relayWord:
		return d.addRelay(w)
	case routeWord:
		return d.addRoute(w)
	}
	return api.ErrCommand
}

// addRelay adds what a line says like: relay NAME
func (d *draft) addRelay(w []string) api.Errno {
	if len(w) != 2 {
		return api.ErrField
	}
	d.relays[w[1]] = len(d.p.Relays)
	d.p.Relays = append(d.p.Relays, w[1])
	return api.OK
}

// addRoute adds what a line says like: route NAME NAME via NAME NAME
func (d *draft) addRoute(w []string) api.Errno {
	const shortest = 4
	if len(w) < shortest {
		return api.ErrField
	}
	from, ok := clusterOf(d.g, w[1])
	if !ok {
		return api.ErrNone
	}
	to, ok := clusterOf(d.g, w[2])
	if !ok {
		return api.ErrNone
	}
	if w[3] != viaWord {
		return api.ErrField
	}
	via, e := d.relaysOf(w[shortest:])
	if e != api.OK {
		return e
	}
	d.p.Routes = append(d.p.Routes, Route{From: from, To: to, Via: via})
	return api.OK
}

// relaysOf are the relays of these names.
func (d *draft) relaysOf(names []string) ([]int, api.Errno) {
	var l []int
	for _, name := range names {
		i, ok := d.relays[name]
		if !ok {
			return nil, api.ErrNone
		}
		l = append(l, i)
	}
	return l, api.OK
}

// Text is a plan in writing.
func Text(p Plan, g graph.Graph) (string, api.Errno) {
	if e := Check(p, g); e != api.OK {
		return "", e
	}
	var s strings.Builder
	for _, name := range p.Relays {
		writeLine(&s, relayWord, name)
	}
	for _, r := range p.Routes {
		writeLine(&s, routeWords(p, g, r)...)
	}
	return s.String(), api.OK
}

// writeLine adds a line of these words to a text.
func writeLine(s *strings.Builder, w ...string) {
	s.WriteString(strings.Join(w, " "))
	s.WriteString("\n")
}

// routeWords are the words of a route's line.
func routeWords(p Plan, g graph.Graph, r Route) []string {
	w := []string{routeWord, g.Clusters[r.From].Name, g.Clusters[r.To].Name, viaWord}
	for _, relay := range r.Via {
		w = append(w, p.Relays[relay])
	}
	return w
}
