package reach

import (
	"math"
	"math/rand"
	"slices"
	"strconv"
	"testing"

	"watershed/api"
	"watershed/chain"
	"watershed/graph"
	"watershed/path"
	"watershed/stamp"
)

// at is a time.
func at(epoch uint32, rounds ...uint32) api.Time {
	t := api.Time{Epoch: epoch, Depth: len(rounds)}
	copy(t.Loop[:], rounds)
	return t
}

// build is a graph in one cluster.
func build(loops []graph.Loop, ops []graph.Op, channels ...graph.Channel) graph.Graph {
	return graph.Graph{Clusters: []graph.Cluster{{Name: "a", Workers: 1}}, Loops: loops, Ops: named(ops), Channels: channels}
}

// named are operators with a name each.
func named(ops []graph.Op) []graph.Op {
	l := slices.Clone(ops)
	for i := range l {
		l[i].Name = "o" + strconv.Itoa(i)
	}
	return l
}

// op is an operator of a kind in a loop.
func op(kind, loop int) graph.Op { return graph.Op{Kind: kind, Loop: loop} }

// delay is an operator that adds to the epoch.
func delay(loop int, n int64) graph.Op { return graph.Op{Kind: graph.Delay, Loop: loop, A: n} }

// rounds are the loop of three rounds of the chapter's examples: an input, Enter, Next with a channel to itself, Leave, and a capture.
func rounds() graph.Graph {
	return build([]graph.Loop{{Name: "l", Up: -1, Rounds: 3}},
		[]graph.Op{op(graph.Input, -1), op(graph.Enter, 0), op(graph.Next, 0), op(graph.Leave, 0), op(graph.Capture, -1)},
		graph.Channel{From: 0, To: 1}, graph.Channel{From: 1, To: 2}, graph.Channel{From: 2, To: 2},
		graph.Channel{From: 2, To: 3}, graph.Channel{From: 3, To: 4})
}

// nested is a graph with loops in one another, a cycle in each, and two ways of which none is LE the other one.
func nested() graph.Graph {
	return build([]graph.Loop{{Name: "l", Up: -1, Rounds: 3}, {Name: "m", Up: 0, Rounds: 2}, {Name: "k", Up: -1, Rounds: 8}},
		[]graph.Op{
			op(graph.Input, -1),   // 0
			op(graph.Enter, 0),    // 1
			op(graph.Next, 0),     // 2
			delay(0, 3),           // 3
			op(graph.Enter, 1),    // 4
			op(graph.Next, 1),     // 5
			op(graph.Sum, 1),      // 6
			op(graph.Leave, 1),    // 7
			op(graph.Leave, 0),    // 8
			op(graph.Capture, -1), // 9
			op(graph.Enter, 2),    // 10
			op(graph.Leave, 2),    // 11
			delay(-1, 1000),       // 12
		},
		graph.Channel{From: 0, To: 1}, graph.Channel{From: 1, To: 2}, graph.Channel{From: 1, To: 3}, graph.Channel{From: 2, To: 4},
		graph.Channel{From: 3, To: 4}, graph.Channel{From: 4, To: 5}, graph.Channel{From: 4, To: 6}, graph.Channel{From: 5, To: 6},
		graph.Channel{From: 6, To: 5}, graph.Channel{From: 6, To: 7}, graph.Channel{From: 7, To: 8}, graph.Channel{From: 8, To: 9},
		graph.Channel{From: 2, To: 2}, graph.Channel{From: 8, To: 10}, graph.Channel{From: 10, To: 11}, graph.Channel{From: 11, To: 12},
		graph.Channel{From: 12, To: 12}, graph.Channel{From: 12, To: 9})
}

// stages is a graph that leads into three loops in one another, with so many pairs in each, of which a time goes through Next or a Delay that adds more than all the earlier ones, so that no way is LE another one.
func stages(pairs ...int) graph.Graph {
	g := build([]graph.Loop{{Name: "l", Up: -1, Rounds: 8}, {Name: "m", Up: 0, Rounds: 8}, {Name: "n", Up: 1, Rounds: 8}}, nil)
	var last []int
	add := func(ops ...graph.Op) {
		var l []int
		for _, o := range ops {
			l = append(l, len(g.Ops))
			for _, from := range last {
				g.Channels = append(g.Channels, graph.Channel{From: from, To: len(g.Ops)})
			}
			g.Ops = append(g.Ops, o)
		}
		last = l
	}
	n := int64(1)
	for loop, k := range pairs {
		add(op(graph.Enter, loop))
		for range k {
			add(op(graph.Next, loop), delay(loop, n))
			n *= 2
		}
	}
	add(op(graph.Swap, 2))
	g.Ops = named(g.Ops)
	return g
}

// randomGraph is a graph of a few operators, with channels wherever they may be.
func randomGraph(r *rand.Rand) graph.Graph {
	g := build([]graph.Loop{{Name: "l", Up: -1, Rounds: 1 + r.Intn(8)}, {Name: "m", Up: r.Intn(2) - 1, Rounds: 1 + r.Intn(8)}}, nil)
	n := 1 + r.Intn(5)
	for len(g.Ops) < n {
		o := graph.Op{Name: "o" + strconv.Itoa(len(g.Ops)), Kind: 1 + r.Intn(14), Loop: r.Intn(3) - 1}
		switch r.Intn(4) {
		case 0:
			o.Kind = graph.Next
		case 1:
			o.Kind, o.A = graph.Delay, int64(r.Intn(3))
		}
		h := g
		h.Ops = append(slices.Clone(g.Ops), o)
		if graph.Check(h) == api.OK {
			g = h
		}
	}
	for range r.Intn(30) {
		h := g
		c := graph.Channel{From: r.Intn(n), To: r.Intn(n)}
		// Mostly onward, as most cycles do not rise.
		if c.From > c.To && r.Intn(4) > 0 {
			c.From, c.To = c.To, c.From
		}
		h.Channels = append(slices.Clone(g.Channels), c)
		if graph.Check(h) == api.OK {
			g = h
		}
	}
	return g
}

// walks are the paths of at most so many steps from each location to each other one, and whether each back rises.
func walks(t *testing.T, g graph.Graph, most int) ([][][]path.Path, bool) {
	t.Helper()
	n := 2 * len(g.Ops)
	steps := make([][][]path.Path, n)
	all := make([][][]path.Path, n)
	for loc := range n {
		steps[loc], all[loc] = make([][]path.Path, n), make([][]path.Path, n)
	}
	stay := func(loc int) path.Path {
		_, depth, e := graph.Scope(g, loc)
		p, e2 := path.Stay(depth)
		if e != api.OK || e2 != api.OK {
			t.Fatal(e, e2)
		}
		return p
	}
	for i := range g.Ops {
		p, e := graph.Inner(g, i)
		if e != api.OK {
			t.Fatal(e)
		}
		steps[2*i][2*i+1] = []path.Path{p}
	}
	for _, c := range g.Channels {
		steps[2*c.From+1][2*c.To] = []path.Path{stay(2 * c.To)}
	}
	sound := true
	for from := range n {
		last := make([]map[path.Path]bool, n)
		last[from] = map[path.Path]bool{stay(from): true}
		all[from][from] = []path.Path{stay(from)}
		for range most {
			next := make([]map[path.Path]bool, n)
			for mid, l := range last {
				for p := range l {
					for to := range n {
						for _, q := range steps[mid][to] {
							w, e := path.Then(p, q)
							if e != api.OK {
								t.Fatal(e)
							}
							if next[to] == nil {
								next[to] = map[path.Path]bool{}
							}
							next[to][w] = true
						}
					}
				}
			}
			for to, l := range next {
				for p := range l {
					all[from][to] = append(all[from][to], p)
					sound = sound && (to != from || path.Rises(p))
				}
			}
			last = next
		}
	}
	return all, sound
}

// minimalOf are the paths of which no other one is LE, each once and in order.
func minimalOf(l []path.Path) []path.Path {
	var m []path.Path
	for _, p := range l {
		if !slices.ContainsFunc(l, func(q path.Path) bool { return q != p && path.LE(q, p) }) {
			m = append(m, p)
		}
	}
	slices.SortFunc(m, path.Compare)
	return slices.Compact(m)
}

// table is the table of a graph that has one.
func table(t *testing.T, g graph.Graph) *Table {
	t.Helper()
	tb, e := New(g)
	if e != api.OK || tb == nil {
		t.Fatalf("New = %v, %d; want a table", tb, e)
	}
	return tb
}

// same tells whether two graphs have the same elements.
func same(g, h graph.Graph) bool {
	return slices.Equal(g.Clusters, h.Clusters) && slices.Equal(g.Loops, h.Loops) && slices.Equal(g.Ops, h.Ops) && slices.Equal(g.Channels, h.Channels)
}

// newIs holds New against the error that it should answer.
func newIs(t *testing.T, name string, g graph.Graph, want api.Errno) {
	t.Helper()
	tb, e := New(g)
	if e != want || (tb == nil) != (want != api.OK) {
		t.Errorf("%s: New = %v, %d; want error %d, and a table beside none", name, tb, e, want)
	}
}

// ring is a cycle of operators.
func ring(loops []graph.Loop, ops ...graph.Op) graph.Graph {
	g := build(loops, ops)
	for i := range ops {
		g.Channels = append(g.Channels, graph.Channel{From: i, To: (i + 1) % len(ops)})
	}
	return g
}

// Promise 10.1: cycles that rise and that do not, and graphs without one.
func TestNewCycles(t *testing.T) {
	l := []graph.Loop{{Name: "l", Up: -1, Rounds: 3}, {Name: "m", Up: 0, Rounds: 3}}
	for _, c := range []struct {
		name string
		g    graph.Graph
		want api.Errno
	}{
		{"one operator", build(nil, []graph.Op{op(graph.Swap, -1)}), api.OK},
		{"the loop of three rounds", rounds(), api.OK},
		{"loops in one another", nested(), api.OK},
		{"two Swaps", ring(nil, op(graph.Swap, -1), op(graph.Swap, -1)), api.ErrCycle},
		{"one Swap", ring(nil, op(graph.Swap, -1)), api.ErrCycle},
		{"a Swap in a loop", ring(l, op(graph.Swap, 0)), api.ErrCycle},
		{"a Next", ring(l, op(graph.Next, 0)), api.OK},
		{"a Next of a loop in a loop", ring(l, op(graph.Next, 1)), api.OK},
		{"a Delay by 0", ring(nil, delay(-1, 0)), api.ErrCycle},
		{"a Delay by 1", ring(nil, delay(-1, 1)), api.OK},
		{"Delays by 0 and 1", ring(l, delay(1, 0), delay(1, 1)), api.OK},
		{"a Next among many", ring(l, op(graph.Sum, 0), op(graph.Map, 0), op(graph.Next, 0), op(graph.Count, 0)), api.OK},
		{"into a loop and out", ring(l, op(graph.Enter, 0), op(graph.Leave, 0)), api.ErrCycle},
		// What was counted within is forgotten where it is left.
		{"into a loop, Next, and out", ring(l, op(graph.Enter, 0), op(graph.Next, 0), op(graph.Leave, 0)), api.ErrCycle},
		// It rises at the places outside, but those within do not keep their round.
		{"into a loop, out, and a Delay", ring(l, op(graph.Enter, 0), op(graph.Leave, 0), delay(-1, 1)), api.ErrCycle},
		{"into a loop in a loop, out, and Next", ring(l, op(graph.Enter, 1), op(graph.Leave, 1), op(graph.Next, 0)), api.ErrCycle},
		{"out of a loop, a Delay, and in", ring(l, op(graph.Leave, 0), delay(-1, 5), op(graph.Enter, 0), op(graph.Next, 0)), api.ErrCycle},
	} {
		newIs(t, c.name, c.g, c.want)
	}
}

// Promise 10.1: a cycle that does not rise at any distance from the first operator, alone or beside those that rise.
func TestNewLongCycles(t *testing.T) {
	for size := 1; size <= api.MaxOps; size++ {
		var ops []graph.Op
		for range size {
			ops = append(ops, op(graph.Sum, -1))
		}
		newIs(t, "a ring of "+strconv.Itoa(size), ring(nil, ops...), api.ErrCycle)
		for i := range ops {
			g := ring(nil, ops...)
			g.Ops[i].Kind, g.Ops[i].A = graph.Delay, 1000
			newIs(t, "a ring with a Delay", g, api.OK)
			if c := (graph.Channel{From: (i + size - 1) % size, To: (i + 1) % size}); size > 2 {
				// Past the Delay, there is a cycle of all the others.
				g.Channels = append(g.Channels, c)
				newIs(t, "a ring with a way past its Delay", g, api.ErrCycle)
			}
		}
	}
}

// Promise 10.1: the error of graph.Check, also where a cycle does not rise.
func TestNewCheck(t *testing.T) {
	swaps := func() graph.Graph { return ring(nil, op(graph.Swap, -1), op(graph.Swap, -1)) }
	for _, c := range []struct {
		name  string
		spoil func(g *graph.Graph)
	}{
		{"nothing", func(g *graph.Graph) { *g = graph.Graph{} }},
		{"no clusters", func(g *graph.Graph) { g.Clusters = nil }},
		{"no operators", func(g *graph.Graph) { g.Ops = nil }},
		{"too many clusters", func(g *graph.Graph) { g.Clusters = make([]graph.Cluster, 5) }},
		{"very many operators", func(g *graph.Graph) { g.Ops = make([]graph.Op, 1<<20) }},
		{"very many channels", func(g *graph.Graph) { g.Channels = make([]graph.Channel, 1<<20) }},
		{"no name", func(g *graph.Graph) { g.Ops[1].Name = "" }},
		{"the same name", func(g *graph.Graph) { g.Ops[1].Name = g.Ops[0].Name }},
		{"no kind", func(g *graph.Graph) { g.Ops[1].Kind = 15 }},
		{"no loop", func(g *graph.Graph) { g.Ops[0].Loop = 0 }},
		{"a Next in no loop", func(g *graph.Graph) { g.Ops[0].Kind = graph.Next }},
		{"a number", func(g *graph.Graph) { g.Ops[0].A = 1 }},
		{"a channel from nowhere", func(g *graph.Graph) { g.Channels[1].From = 2 }},
		{"a channel to an input", func(g *graph.Graph) { g.Ops[0].Kind = graph.Input }},
		{"the same channel", func(g *graph.Graph) { g.Channels[1] = g.Channels[0] }},
	} {
		g := swaps()
		c.spoil(&g)
		want := graph.Check(g)
		if want == api.OK {
			t.Fatal(c.name, "is a graph")
		}
		newIs(t, c.name, g, want)
	}
	g := swaps()
	g.Loops = []graph.Loop{{Name: "l", Up: -1, Rounds: 9}}
	newIs(t, "too many rounds", g, api.ErrRange)
	g.Loops = []graph.Loop{{Name: "l", Up: -1, Rounds: 1}, {Name: "m", Up: 0, Rounds: 1}, {Name: "n", Up: 1, Rounds: 1}, {Name: "o", Up: 2, Rounds: 1}}
	newIs(t, "too deep", g, api.ErrDepth)
}

// holds holds a table against the definitions: paths, and from where they lead.
func holds(t *testing.T, tb *Table, g graph.Graph, all [][][]path.Path) {
	t.Helper()
	if tb.Places() != len(all) {
		t.Fatalf("%v: Places = %d; want %d", g, tb.Places(), len(all))
	}
	for to := range all {
		var into []int
		for from := range all {
			want := minimalOf(all[from][to])
			if l := tb.Paths(from, to); !slices.Equal(l, want) {
				t.Fatalf("%v: Paths(%d, %d) = %v; want %v", g, from, to, l, want)
			}
			if len(want) > 0 {
				into = append(into, from)
			}
		}
		if l := tb.Into(to); !slices.Equal(l, into) {
			t.Fatalf("%v: Into(%d) = %v; want %v", g, to, l, into)
		}
	}
}

// Promises 10.1 and 10.2: small graphs of all kinds held against all walks of some steps more than the longest one that comes nowhere twice.
func TestSmallGraphs(t *testing.T) {
	r := rand.New(rand.NewSource(1))
	sound, several := 0, 0
	for range 12000 {
		g := randomGraph(r)
		all, ok := walks(t, g, 2*len(g.Ops)+3)
		if !ok {
			newIs(t, "a cycle", g, api.ErrCycle)
			continue
		}
		sound++
		tb := table(t, g)
		holds(t, tb, g, all)
		for from := range all {
			for to := range all {
				several += max(0, len(tb.Paths(from, to))-1)
			}
		}
	}
	if sound < 1000 || sound > 11000 || several < 20 {
		t.Error(sound, "of 12000 graphs are sound, and there are", several, "further paths: the test tells little")
	}
}

// Promise 10.2: the graphs with loops held against all walks.
func TestLoops(t *testing.T) {
	for _, g := range []graph.Graph{rounds(), nested()} {
		all, ok := walks(t, g, 2*len(g.Ops))
		if !ok {
			t.Fatal("a cycle does not rise")
		}
		holds(t, table(t, g), g, all)
	}
}

// Promise 10.2: the paths in the loop of three rounds, one by one.
func TestPathsOfRounds(t *testing.T) {
	tb := table(t, rounds())
	if n := tb.Places(); n != 10 {
		t.Errorf("Places = %d; want 10", n)
	}
	stay := func(depth int) path.Path { return path.Path{From: depth, Keep: depth} }
	for _, c := range []struct {
		name     string
		from, to int
		want     []path.Path
	}{
		{"no steps outside", 0, 0, []path.Path{stay(0)}},
		// The way around through Next is not minimal.
		{"no steps within", 4, 4, []path.Path{stay(1)}},
		{"through Next", 4, 5, []path.Path{{From: 1, Keep: 1, Plus: [4]uint32{0, 1}}}},
		{"from Next back to it", 5, 4, []path.Path{stay(1)}},
		{"into the loop and through Next", 2, 5, []path.Path{{From: 0, Push: 1, Loop: [3]uint32{1}}}},
		{"to the end", 0, 9, []path.Path{stay(0)}},
		{"out of the loop", 4, 9, []path.Path{{From: 1}}},
		{"against the channels", 9, 0, nil},
		{"out of the loop and in", 7, 3, nil},
	} {
		if l := tb.Paths(c.from, c.to); !slices.Equal(l, c.want) {
			t.Errorf("%s: Paths(%d, %d) = %v; want %v", c.name, c.from, c.to, l, c.want)
		}
	}
	for to, want := range [][]int{{0}, {0, 1}, {0, 1, 2}, {0, 1, 2, 3}, {0, 1, 2, 3, 4, 5}, {0, 1, 2, 3, 4, 5}, {0, 1, 2, 3, 4, 5, 6}} {
		if l := tb.Into(to); !slices.Equal(l, want) {
			t.Errorf("Into(%d) = %v; want %v", to, l, want)
		}
	}
}

// Promise 10.2: as many paths as there may be, in order, none LE another one.
func TestManyPaths(t *testing.T) {
	for _, pairs := range [][]int{{3, 3, 3}, {3, 3, 4}, {0, 0, 10}, {5, 5, 0}} {
		g := stages(pairs...)
		tb := table(t, g)
		want := 1
		for _, n := range pairs {
			want *= n + 1
		}
		l := tb.Paths(0, tb.Places()-1)
		if len(l) != want || !slices.IsSortedFunc(l, path.Compare) || !slices.Equal(l, minimalOf(l)) {
			t.Errorf("%v: %d paths: %v; want %d", pairs, len(l), l, want)
		}
	}
}

// noPlaces are numbers that are no location of a graph with so many.
func noPlaces(n int) []int {
	return []int{-1, n, n + 1, 2 * n, math.MinInt, math.MaxInt, -1 << 32, 1 << 32, 1<<32 + 1}
}

// Promises 10.2 and 10.3: what is no location.
func TestNoPlace(t *testing.T) {
	tb := table(t, rounds())
	for _, no := range noPlaces(tb.Places()) {
		if l := tb.Into(no); len(l) != 0 {
			t.Errorf("Into(%d) = %v", no, l)
		}
		if tb.Fits(no, at(0)) || tb.Fits(no, at(0, 0)) {
			t.Errorf("Fits(%d)", no)
		}
		for loc := -1; loc <= tb.Places(); loc++ {
			if l, k := tb.Paths(no, loc), tb.Paths(loc, no); len(l) != 0 || len(k) != 0 {
				t.Errorf("Paths between %d and %d = %v, %v", no, loc, l, k)
			}
			for _, x := range []api.Time{at(0), at(0, 0)} {
				if l, k := tb.Could(no, x, loc), tb.Could(loc, x, no); len(l) != 0 || len(k) != 0 {
					t.Errorf("Could between %d and %d = %v, %v", no, loc, l, k)
				}
				if tb.May(no, x, loc, x) || tb.May(loc, x, no, x) {
					t.Errorf("May between %d and %d", no, loc)
				}
			}
		}
	}
}

// Promise 10.2: Graph is the graph, whatever became of what New was given, and of what Graph returned.
func TestGraph(t *testing.T) {
	for _, want := range []graph.Graph{rounds(), nested(), stages(1, 1, 1), build(nil, []graph.Op{op(graph.Swap, -1)})} {
		g := graph.Graph{Clusters: slices.Clone(want.Clusters), Loops: slices.Clone(want.Loops), Ops: slices.Clone(want.Ops), Channels: slices.Clone(want.Channels)}
		tb := table(t, g)
		spoil(g)
		if h := tb.Graph(); !same(h, want) {
			t.Errorf("Graph = %v; want %v", h, want)
		}
		spoil(tb.Graph())
		if h := tb.Graph(); !same(h, want) {
			t.Errorf("Graph = %v; want %v", h, want)
		}
		other := table(t, want)
		for from := range other.Places() {
			for to := range other.Places() {
				if !slices.Equal(tb.Paths(from, to), other.Paths(from, to)) || tb.Fits(from, at(0, 1)) != other.Fits(from, at(0, 1)) {
					t.Errorf("other answers between %d and %d", from, to)
				}
			}
		}
	}
}

// spoil changes all elements of a graph.
func spoil(g graph.Graph) {
	for i := range g.Clusters {
		g.Clusters[i].Name += "z"
	}
	for i := range g.Loops {
		g.Loops[i].Rounds, g.Loops[i].Up = 1, -1
	}
	for i := range g.Ops {
		g.Ops[i].Kind, g.Ops[i].Loop = graph.Capture, -1
	}
	for i := range g.Channels {
		g.Channels[i].From++
	}
}

// Rule R4: New changes nothing of what it is given, nor behind the ends of its lists.
func TestArgument(t *testing.T) {
	for _, whole := range []graph.Graph{nested(), ring(nil, op(graph.Swap, -1), op(graph.Swap, -1), op(graph.Swap, -1))} {
		g := graph.Graph{Clusters: slices.Clone(whole.Clusters), Loops: slices.Clone(whole.Loops), Ops: slices.Clone(whole.Ops), Channels: slices.Clone(whole.Channels)}
		part := graph.Graph{Clusters: g.Clusters[:1], Loops: g.Loops, Ops: g.Ops[:2], Channels: g.Channels[:1]}
		New(g)
		New(part)
		if !same(g, whole) {
			t.Errorf("New made %v of %v", g, whole)
		}
	}
}

// Rule R4: results are new memory, also behind their ends.
func TestNewMemory(t *testing.T) {
	g := nested()
	tb, want := table(t, g), table(t, g)
	x := at(5)
	for from := range tb.Places() {
		for to := range tb.Places() {
			paths := tb.Paths(from, to)
			clear(paths[:cap(paths)])
			into := tb.Into(to)
			clear(into[:cap(into)])
			could := tb.Could(from, x, to)
			clear(could[:cap(could)])
			if !slices.Equal(tb.Paths(from, to), want.Paths(from, to)) || !slices.Equal(tb.Into(to), want.Into(to)) || !slices.Equal(tb.Could(from, x, to), want.Could(from, x, to)) {
				t.Fatalf("a result between %d and %d changed", from, to)
			}
		}
	}
}

// times are times of each depth, with numbers at the edges of the loops' rounds and of counts, and some that are none.
func times() []api.Time {
	var l []api.Time
	edges := []uint32{0, 1, 2, 3, 7, 8, api.MaxCount}
	for _, epoch := range []uint32{0, 5, api.MaxCount - 1000, api.MaxCount - 1, api.MaxCount, api.MaxCount + 1, math.MaxUint32} {
		l = append(l, at(epoch))
		for _, i := range edges {
			l = append(l, at(epoch, i))
			for _, j := range edges {
				l = append(l, at(epoch, i, j))
			}
		}
		l = append(l, at(epoch, 0, 0, 0), at(epoch, 1, 1, 1))
	}
	return append(l, api.Time{Depth: -1}, api.Time{Depth: 4}, api.Time{Depth: math.MaxInt}, api.Time{Depth: math.MinInt},
		api.Time{Loop: [3]uint32{1}}, api.Time{Depth: 1, Loop: [3]uint32{0, 1}}, api.Time{Depth: 2, Loop: [3]uint32{0, 0, 1}})
}

// Promise 10.3: Fits is graph.Fits.
func TestFits(t *testing.T) {
	for _, g := range []graph.Graph{rounds(), nested(), stages(1, 1, 1)} {
		tb := table(t, g)
		for loc := -2; loc <= tb.Places()+1; loc++ {
			for _, x := range append(times(), at(1, 7, 7, 7), at(1, 7, 7, 8), at(1, 8, 7, 7), at(1, 7, 8, 7)) {
				if fits := tb.Fits(loc, x); fits != graph.Fits(g, loc, x) {
					t.Errorf("Fits(%d, %v) = %v", loc, x, fits)
				}
			}
		}
	}
}

// Promise 10.3: the chapter's examples, and what is at the edges of the loop of three rounds.
func TestCouldRounds(t *testing.T) {
	tb := table(t, rounds())
	for _, c := range []struct {
		name string
		from int
		x    api.Time
		to   int
		want []api.Time
	}{
		{"from the input of Enter to the output of Next", 2, at(5), 5, []api.Time{at(5, 1)}},
		{"from the input of Enter to the output of Leave", 2, at(5), 7, []api.Time{at(5)}},
		{"through Next in the last round", 4, at(5, 2), 5, nil},
		{"through Next in the round before", 4, at(5, 1), 5, []api.Time{at(5, 2)}},
		{"around in the last round", 5, at(5, 2), 5, []api.Time{at(5, 2)}},
		{"out in the last round", 4, at(5, 2), 6, nil},
		{"from Next out in the last round", 5, at(5, 2), 9, []api.Time{at(5)}},
		{"from a round that there is not", 4, at(5, 3), 4, nil},
		{"from a time of another depth", 4, at(5), 4, nil},
		{"from a time that is too deep", 0, at(5, 0), 0, nil},
		{"the greatest epoch", 0, at(api.MaxCount), 9, []api.Time{at(api.MaxCount)}},
		{"from no time", 0, at(api.MaxCount + 1), 9, nil},
		{"against the channels", 9, at(5), 0, nil},
	} {
		if l := tb.Could(c.from, c.x, c.to); !slices.Equal(l, c.want) {
			t.Errorf("%s: Could(%d, %v, %d) = %v; want %v", c.name, c.from, c.x, c.to, l, c.want)
		}
	}
	for _, c := range []struct {
		from int
		x    api.Time
		to   int
		y    api.Time
		want bool
	}{
		{2, at(5), 5, at(6, 1), true},
		{2, at(5), 5, at(5, 0), false},
		{2, at(5), 5, at(5, 1), true},
		{2, at(5), 5, at(5, 2), true},
		{2, at(5), 5, at(5, 3), false}, // it is greater, but does not fit
		{2, at(5), 5, at(4, 2), false},
		{2, at(5), 5, at(6), false},
		{2, at(5), 2, at(5), true},
		{2, at(5), 2, at(4), false},
		{2, at(5), 2, at(api.MaxCount), true},
		{2, at(5), 2, at(api.MaxCount + 1), false},
		{2, at(5, 0), 2, at(5), false},
	} {
		if may := tb.May(c.from, c.x, c.to, c.y); may != c.want {
			t.Errorf("May(%d, %v, %d, %v) = %v", c.from, c.x, c.to, c.y, may)
		}
	}
}

// couldOf is Could by its definition.
func couldOf(g graph.Graph, tb *Table, from int, x api.Time, to int) []api.Time {
	if !graph.Fits(g, from, x) {
		return nil
	}
	var l []api.Time
	for _, p := range tb.Paths(from, to) {
		if y, e := path.Apply(p, x); e == api.OK && graph.Fits(g, to, y) {
			l = append(l, y)
		}
	}
	f, _ := chain.Make(l)
	return f
}

// Promise 10.3: Could and May by their definitions, for all locations and many times.
func TestCouldAndMay(t *testing.T) {
	for _, g := range []graph.Graph{rounds(), nested()} {
		tb := table(t, g)
		all := times()
		for from := range tb.Places() {
			for to := range tb.Places() {
				for _, x := range all {
					want := couldOf(g, tb, from, x, to)
					if l := tb.Could(from, x, to); !slices.Equal(l, want) {
						t.Fatalf("Could(%d, %v, %d) = %v; want %v", from, x, to, l, want)
					}
				}
				for i, x := range all {
					y := all[(i*7+from+to)%len(all)]
					want := graph.Fits(g, to, y) && chain.Holds(couldOf(g, tb, from, x, to), y)
					if may := tb.May(from, x, to, y); may != want {
						t.Fatalf("May(%d, %v, %d, %v) = %v", from, x, to, y, may)
					}
				}
			}
		}
	}
}

// Promise 10.3: sums that are too great come to nothing, though others of the same paths do not.
func TestCouldOver(t *testing.T) {
	g := nested()
	tb := table(t, g)
	// By Next to 0.1 at the input of Enter of the inner loop, and by the Delay to 3.0.
	for _, c := range []struct {
		epoch uint32
		want  []api.Time
	}{
		{0, []api.Time{at(0, 1), at(3, 0)}},
		{api.MaxCount - 3, []api.Time{at(api.MaxCount-3, 1), at(api.MaxCount, 0)}},
		{api.MaxCount - 2, []api.Time{at(api.MaxCount-2, 1)}},
		{api.MaxCount, []api.Time{at(api.MaxCount, 1)}},
	} {
		if l := tb.Could(2, at(c.epoch), 8); !slices.Equal(l, c.want) {
			t.Errorf("Could(2, %d, 8) = %v; want %v", c.epoch, l, c.want)
		}
	}
	if l := tb.Could(24, at(api.MaxCount-999), 25); len(l) != 0 {
		t.Errorf("Could = %v; want none", l)
	}
	if l := tb.Could(24, at(api.MaxCount-1000), 25); !slices.Equal(l, []api.Time{at(api.MaxCount)}) {
		t.Errorf("Could = %v; want the greatest epoch", l)
	}
}

// Promise 10.3: as many times as a frontier may have; chain.Make rejects more.
func TestCouldMany(t *testing.T) {
	tb := table(t, stages(3, 3, 3))
	l := tb.Could(0, at(0), tb.Places()-1)
	if len(l) != api.MaxChain || chain.Check(l) != api.OK {
		t.Errorf("Could = %d times, %d; want 64", len(l), chain.Check(l))
	}
	if !tb.May(0, at(0), tb.Places()-1, at(0, 3, 3, 3)) || tb.May(0, at(0), tb.Places()-1, at(0, 3, 3, 2)) {
		t.Error("May of 64 times")
	}
	tb = table(t, stages(3, 3, 4))
	if l := tb.Could(0, at(0), tb.Places()-1); len(l) != 0 {
		t.Errorf("Could = %d times; want none, as 80 are no frontier", len(l))
	}
	if tb.May(0, at(0), tb.Places()-1, at(9999, 7, 7, 7)) {
		t.Error("May of more than 64 times")
	}
}

// fitting are times that fit at a location.
func fitting(tb *Table, loc int) []api.Time {
	var l []api.Time
	for _, x := range []api.Time{at(0), at(1), at(3), at(0, 0), at(0, 1), at(1, 0), at(2, 2), at(0, 0, 0), at(0, 0, 1), at(0, 1, 0), at(2, 0, 1), at(3, 2, 1)} {
		if tb.Fits(loc, x) {
			l = append(l, x)
		}
	}
	return l
}

// Promise 10.4: what may result from a time may result from lesser ones, what results from what results may result, and nothing at the same location is less.
func TestConsequences(t *testing.T) {
	r := rand.New(rand.NewSource(2))
	graphs := []graph.Graph{rounds(), nested()}
	for len(graphs) < 60 {
		if g := randomGraph(r); len(g.Channels) > 2 {
			if _, e := New(g); e == api.OK {
				graphs = append(graphs, g)
			}
		}
	}
	for _, g := range graphs {
		tb := table(t, g)
		for a := range tb.Places() {
			for _, x := range fitting(tb, a) {
				lead(t, tb, a, x)
				for _, lesser := range fitting(tb, a) {
					if tb.May(a, x, a, lesser) && stamp.LE(lesser, x) && lesser != x {
						t.Fatalf("%v: at %d, %v leads to %v", g, a, x, lesser)
					}
				}
			}
		}
	}
}

// lead holds what a time may lead to against what lesser ones, and what it leads to, may lead to.
func lead(t *testing.T, tb *Table, a int, x api.Time) {
	t.Helper()
	for b := range tb.Places() {
		for _, y := range fitting(tb, b) {
			if !tb.May(a, x, b, y) {
				continue
			}
			for _, lesser := range fitting(tb, a) {
				if stamp.LE(lesser, x) && !tb.May(a, lesser, b, y) {
					t.Fatalf("%v: %v at %d leads to %v at %d, but %v does not", tb.Graph(), x, a, y, b, lesser)
				}
			}
			for c := range tb.Places() {
				for _, z := range fitting(tb, c) {
					if tb.May(b, y, c, z) && !tb.May(a, x, c, z) {
						t.Fatalf("%v: %v at %d leads to %v at %d, and that to %v at %d", tb.Graph(), x, a, y, b, z, c)
					}
				}
			}
		}
	}
}
