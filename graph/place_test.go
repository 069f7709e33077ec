package graph

import (
	"math"
	"slices"
	"testing"

	"watershed/api"
	"watershed/path"
	"watershed/stamp"
)

// scope is a loop, and how many loops that is in.
type scope struct{ loop, depth int }

// scopes are the loop and the depth at each place of the whole graph: of each operator, at its input and at its output.
func scopes() [][2]scope {
	out, l, m, n, k := scope{-1, 0}, scope{0, 1}, scope{1, 2}, scope{2, 3}, scope{3, 1}
	return [][2]scope{
		{out, out}, {out, out}, {out, out}, {l, l}, {out, out}, {n, n}, // x y ma fi sw re
		{out, l}, {l, m}, {m, n}, {out, k}, // el em en ek
		{l, l}, {m, m}, {n, n}, // nl nm nn
		{l, out}, {m, l}, {n, m}, {k, out}, // ll lm ln lk
		{m, m}, {out, out}, // de d0
		{n, n}, {out, out}, {l, l}, {k, k}, // su co le mo
		{out, out}, // thelongest12
	}
}

// checkScope holds Scope against what it should return.
func checkScope(t *testing.T, g Graph, loc int, want scope, e api.Errno) {
	t.Helper()
	if loop, depth, f := Scope(g, loc); loop != want.loop || depth != want.depth || f != e {
		t.Errorf("Scope at %d = %d, %d, %d; want %v, %d", loc, loop, depth, f, want, e)
	}
}

// Promise 9.3: Scope at each place of a graph with operators of each kind, in loops in one another.
func TestScope(t *testing.T) {
	g := whole()
	for op, s := range scopes() {
		checkScope(t, g, 2*op, s[0], api.OK)
		checkScope(t, g, 2*op+1, s[1], api.OK)
	}
}

// Promise 9.3: Scope of operators of each kind in each loop that they may be in.
func TestScopeOfKinds(t *testing.T) {
	all, up, depths := twoLoops(), []int{-1, 0, -1}, map[int]int{-1: 0, 0: 1, 1: 2, 2: 1}
	for _, o := range all.Ops {
		g := Graph{Clusters: all.Clusters, Loops: all.Loops, Ops: []Op{o}}
		in, out := loopIn(o, up), loopOut(o, up)
		checkScope(t, g, 0, scope{in, depths[in]}, api.OK)
		checkScope(t, g, 1, scope{out, depths[out]}, api.OK)
	}
}

// outOf are numbers that are no place of a graph with so many operators.
func outOf(n int) []int {
	return []int{-1, -2, -3, 2 * n, 2*n + 1, 2*n + 2, 100, 1 << 32, 1<<62 + 1, 1 << 62, math.MaxInt - 1, math.MaxInt, math.MinInt, math.MinInt + 1, -1 << 32}
}

// Promise 9.3: what is no place, and what is no operator.
func TestOutOfRange(t *testing.T) {
	for _, g := range []Graph{whole(), small(), greatest()} {
		n := len(g.Ops)
		for _, loc := range outOf(n) {
			checkScope(t, g, loc, scope{}, api.ErrRange)
			if Fits(g, loc, api.Time{}) {
				t.Errorf("Fits at %d = true", loc)
			}
		}
		for _, op := range append(outOf(n), n, n+1, 2*n-1) {
			if p, e := Inner(g, op); p != (path.Path{}) || e != api.ErrRange {
				t.Errorf("Inner of %d = %v, %d", op, p, e)
			}
		}
	}
}

// Promise 9.3: what is no graph has the error of Check, whatever place or operator is asked for.
func TestPlaceErrors(t *testing.T) {
	for _, c := range append(faults(), fault{"nothing", func(g *Graph) { *g = Graph{} }, api.ErrNone}) {
		g := whole()
		c.spoil(&g)
		for _, i := range append(outOf(24), 0, 1, 2, 3, 23, 24, 47) {
			checkScope(t, g, i, scope{}, c.e)
			if p, e := Inner(g, i); p != (path.Path{}) || e != c.e {
				t.Errorf("%s: Inner of %d = %v, %d; want error %d", c.name, i, p, e, c.e)
			}
			for depth := range 4 {
				if Fits(g, i, api.Time{Depth: depth}) {
					t.Errorf("%s: Fits at %d = true", c.name, i)
				}
			}
		}
		if l := Flows(g); len(l) != 0 {
			t.Errorf("%s: Flows = %v", c.name, l)
		}
	}
}

// inner is the path through an operator whose input has this depth, as the chapter defines it.
func inner(o Op, depth int) path.Path {
	p := path.Path{From: depth, Keep: depth}
	switch o.Kind {
	case Enter:
		p.Push = 1
	case Leave:
		p.Keep--
	case Next:
		p.Plus[depth] = 1
	case Delay:
		p.Plus[0] = uint32(o.A)
	}
	return p
}

// checkInner holds Inner against what it should return.
func checkInner(t *testing.T, g Graph, op int, want path.Path) {
	t.Helper()
	if p, e := Inner(g, op); p != want || e != api.OK {
		t.Errorf("Inner of %v = %v, %d; want %v", g.Ops[op], p, e, want)
	}
}

// Promise 9.3: Inner of operators of each kind at each depth, and of Delays by each number at the edges.
func TestInner(t *testing.T) {
	g := whole()
	for op, s := range scopes() {
		checkInner(t, g, op, inner(g.Ops[op], s[0].depth))
	}
	for _, by := range []int64{0, 1, 2, 255, 256, 999, 1000} {
		for loop, depth := range []int{1, 2, 3, 1} {
			g := whole()
			g.Ops[20] = Op{"co", Delay, loop, 0, by, 0}
			g.Channels = nil
			p := path.Path{From: depth, Keep: depth}
			p.Plus[0] = uint32(by)
			checkInner(t, g, 20, p)
		}
	}
}

// Promise 9.4: the path through an operator is one, and leads from the depth at its input to that at its output.
func TestInnerDepths(t *testing.T) {
	for _, all := range []Graph{whole(), twoLoops()} {
		for _, o := range all.Ops {
			g := Graph{Clusters: all.Clusters, Loops: all.Loops, Ops: []Op{o}}
			p, e := Inner(g, 0)
			_, in, _ := Scope(g, 0)
			_, out, _ := Scope(g, 1)
			if e != api.OK || path.Check(p) != api.OK || p.From != in || path.To(p) != out {
				t.Errorf("Inner of %v = %v, %d; the depths are %d and %d", o, p, e, in, out)
			}
		}
	}
}

// bounds are the rounds of the loops around each loop of the whole graph, the outermost one first; those around no loop have the index -1.
func bounds() map[int][]int {
	return map[int][]int{-1: {}, 0: {3}, 1: {3, 8}, 2: {3, 8, 2}, 3: {1}}
}

// someTimes are times of each depth with small rounds, and with great ones.
func someTimes() []api.Time {
	rounds := []uint32{0, 1, 2, 3, 4, 7, 8, 9, api.MaxCount}
	var l []api.Time
	for _, epoch := range []uint32{0, 1, 7, 1000, api.MaxCount} {
		l = append(l, api.Time{Epoch: epoch})
		for _, r0 := range rounds {
			l = append(l, api.Time{Epoch: epoch, Depth: 1, Loop: [3]uint32{r0}})
			for _, r1 := range rounds {
				l = append(l, api.Time{Epoch: epoch, Depth: 2, Loop: [3]uint32{r0, r1}})
				for _, r2 := range rounds {
					l = append(l, api.Time{Epoch: epoch, Depth: 3, Loop: [3]uint32{r0, r1, r2}})
				}
			}
		}
	}
	return l
}

// Promise 9.3: Fits at each place with times of each depth, with rounds up to those of each loop and beyond them.
func TestFits(t *testing.T) {
	g, times, counts := whole(), someTimes(), [4]int{}
	for op, s := range scopes() {
		for i := range 2 {
			most := bounds()[s[i].loop]
			for _, x := range times {
				want := x.Depth == len(most)
				for j, rounds := range most {
					want = want && int(x.Loop[j]) < rounds
				}
				if want {
					counts[x.Depth]++
				}
				if got := Fits(g, 2*op+i, x); got != want {
					t.Errorf("Fits of %v at the place %d = %v", x, 2*op+i, got)
				}
			}
		}
	}
	if slices.Contains(counts[:], 0) {
		t.Errorf("so many times fit: %v", counts)
	}
}

// Promise 9.3: the first round belongs to the outermost loop, wherever that is in the list.
func TestFitsOrder(t *testing.T) {
	g, e := whole(), api.OK
	g.Loops = []Loop{{"k", -1, 1}, {"l", -1, 3}, {"m", 1, 8}, {"o", 0, 5}, {"n", 2, 2}, {"p", -1, 7}}
	g.Ops, g.Channels = []Op{{"s", Swap, 4, 0, 0, 0}}, nil
	if e = Check(g); e != api.OK {
		t.Fatalf("Check = %d", e)
	}
	for _, c := range []struct {
		loop [3]uint32
		want bool
	}{
		{[3]uint32{0, 0, 0}, true},
		{[3]uint32{2, 7, 1}, true},
		{[3]uint32{3, 0, 0}, false},
		{[3]uint32{0, 8, 0}, false},
		{[3]uint32{0, 0, 2}, false},
		{[3]uint32{1, 7, 2}, false},
	} {
		for i := range 2 {
			if got := Fits(g, i, api.Time{Epoch: 5, Depth: 3, Loop: c.loop}); got != c.want {
				t.Errorf("Fits of the rounds %v = %v", c.loop, got)
			}
		}
	}
}

// Promise 9.3: what is no time fits nowhere.
func TestFitsNoTime(t *testing.T) {
	const most = api.MaxCount
	wrong := []api.Time{
		{Depth: -1}, {Depth: 4}, {Depth: math.MaxInt}, {Depth: math.MinInt}, {Depth: 1 << 32}, {Depth: 1<<32 + 1},
		{Epoch: most + 1}, {Epoch: math.MaxUint32}, {Epoch: most + 1, Depth: 3},
		{Loop: [3]uint32{1}}, {Loop: [3]uint32{0, 0, 1}}, {Depth: 1, Loop: [3]uint32{0, 1}}, {Depth: 1, Loop: [3]uint32{0, 0, 1}}, {Depth: 2, Loop: [3]uint32{0, 0, 1}},
		{Depth: 1, Loop: [3]uint32{0, most + 1}}, {Depth: 1, Loop: [3]uint32{most + 1}}, {Depth: 3, Loop: [3]uint32{0, 0, math.MaxUint32}},
	}
	for loc := range 48 {
		for _, x := range wrong {
			if stamp.Check(x) == api.OK {
				t.Fatalf("%v is a time", x)
			}
			if Fits(whole(), loc, x) {
				t.Errorf("Fits of %v at %d = true", x, loc)
			}
		}
	}
}

// checkFlows holds Flows against what it should return.
func checkFlows(t *testing.T, g Graph, want []int) {
	t.Helper()
	if l := Flows(g); !slices.Equal(l, want) {
		t.Errorf("Flows = %v; want %v", l, want)
	}
}

// Promise 9.3: the channels between clusters, in the order of the channels.
func TestFlows(t *testing.T) {
	checkFlows(t, small(), nil)
	checkFlows(t, whole(), []int{2, 4, 11, 13, 14, 16, 18, 19, 24, 25})
	// Of the greatest graph, each second channel leads from an operator to itself, and the others lead two clusters further.
	var second []int
	for i := range 24 {
		second = append(second, 2*i+1)
	}
	checkFlows(t, greatest(), second)
	// Three channels of which the second one leads to another cluster.
	g := small()
	g.Clusters = append(g.Clusters, Cluster{"b", 1})
	g.Ops = append(g.Ops, Op{"z", Capture, -1, 1, 0, 0}, Op{"s", Swap, -1, 0, 0, 0})
	g.Channels = []Channel{{0, 1}, {0, 2}, {0, 3}}
	checkFlows(t, g, []int{1})
	// The clusters decide, not their names, their workers or the loops.
	g.Ops[2].At, g.Clusters[1].Workers = 0, 4
	checkFlows(t, g, nil)
	g.Ops[0].At = 1
	checkFlows(t, g, []int{0, 1, 2})
	g.Channels = nil
	checkFlows(t, g, nil)
}

// Rule R4: two lists of flows share no memory.
func TestFlowsAreNew(t *testing.T) {
	g := greatest()
	first, second := Flows(g), Flows(g)
	for i := range first {
		first[i] = -7
	}
	first = append(first, -7)
	if !slices.Equal(second, Flows(g)) || slices.Contains(second, -7) {
		t.Errorf("the second list became %v", second)
	}
}

// The chapter's examples.
func TestExamples(t *testing.T) {
	checkWrong(t, "what", 1, api.ErrCommand)
	checkWrong(t, "cluster a", 1, api.ErrField)
	g, line, e := Parse(smallText)
	if line != 0 || e != api.OK {
		t.Fatalf("Parse = %v, %d, %d", g, line, e)
	}
	checkText(t, g, smallText, api.OK)
	checkFlows(t, g, nil)
	g.Loops = []Loop{{"l", -1, 3}}
	g.Ops = append(g.Ops, Op{"e", Enter, 0, 0, 0, 0})
	checkScope(t, g, 4, scope{-1, 0}, api.OK)
	for round, want := range []bool{true, true, true, false, false} {
		if got := Fits(g, 5, api.Time{Depth: 1, Loop: [3]uint32{uint32(round)}}); got != want {
			t.Errorf("Fits of the round %d = %v", round, got)
		}
	}
}
