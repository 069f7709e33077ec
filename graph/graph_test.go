package graph

import (
	"cmp"
	"math"
	"slices"
	"strconv"
	"strings"
	"testing"

	"watershed/api"
)

// whole is a graph with operators of each kind, with loops in one another, as many operators as a graph may have, and channels within and between clusters.
func whole() Graph {
	return Graph{
		Clusters: []Cluster{{"a", 1}, {"b2", 4}},
		Loops:    []Loop{{"l", -1, 3}, {"m", 0, 8}, {"n", 1, 2}, {"k", -1, 1}},
		Ops: []Op{
			{"x", 1, -1, 0, 0, 0},            // 0: input
			{"y", 2, -1, 1, 0, 0},            // 1: capture
			{"ma", 3, -1, 0, -5, 7},          // 2: map
			{"fi", 4, 0, 1, 1000, 999},       // 3: filter
			{"sw", 5, -1, 0, 0, 0},           // 4: swap
			{"re", 6, 2, 0, 1, 0},            // 5: rekey
			{"el", 7, 0, 1, 0, 0},            // 6: enter
			{"em", 7, 1, 0, 0, 0},            // 7
			{"en", 7, 2, 0, 0, 0},            // 8
			{"ek", 7, 3, 1, 0, 0},            // 9
			{"nl", 9, 0, 0, 0, 0},            // 10: next
			{"nm", 9, 1, 1, 0, 0},            // 11
			{"nn", 9, 2, 0, 0, 0},            // 12
			{"ll", 8, 0, 0, 0, 0},            // 13: leave
			{"lm", 8, 1, 0, 0, 0},            // 14
			{"ln", 8, 2, 1, 0, 0},            // 15
			{"lk", 8, 3, 1, 0, 0},            // 16
			{"de", 10, 1, 0, 1000, 0},        // 17: delay
			{"d0", 10, -1, 0, 0, 0},          // 18
			{"su", 11, 2, 0, 0, 0},           // 19: sum
			{"co", 12, -1, 1, 0, 0},          // 20: count
			{"le", 13, 0, 0, 0, 0},           // 21: least
			{"mo", 14, 3, 1, 0, 0},           // 22: most
			{"thelongest12", 1, -1, 1, 0, 0}, // 23: another input
		},
		Channels: []Channel{
			{0, 2}, {2, 4}, {4, 6}, {6, 3}, {3, 7}, {7, 17}, {17, 8}, {8, 5}, {5, 19}, {19, 12}, {12, 5}, {12, 15},
			{15, 11}, {11, 17}, {11, 14}, {14, 10}, {10, 3}, {10, 13}, {13, 1}, {4, 9}, {9, 22}, {22, 16}, {16, 1},
			{23, 20}, {20, 18}, {18, 1}, {23, 1}, {21, 21},
		},
	}
}

// small is the graph of the chapter's example.
func small() Graph {
	return Graph{
		Clusters: []Cluster{{"a", 1}},
		Ops:      []Op{{Name: "x", Kind: Input, Loop: -1}, {Name: "y", Kind: Capture, Loop: -1}},
		Channels: []Channel{{0, 1}},
	}
}

// greatest is a graph whose lists are all as long as they may be.
func greatest() Graph {
	g := Graph{}
	for i := range 4 {
		g.Clusters = append(g.Clusters, Cluster{"c" + strconv.Itoa(i), i + 1})
	}
	for i, up := range []int{-1, 0, 1, 1, -1, 4} {
		g.Loops = append(g.Loops, Loop{"l" + strconv.Itoa(i), up, i + 3})
	}
	for i := range 24 {
		g.Ops = append(g.Ops, Op{Name: "o" + strconv.Itoa(i), Kind: Swap, Loop: i%2 - 1, At: i % 4})
	}
	for i := range 24 {
		g.Channels = append(g.Channels, Channel{i, i}, Channel{i, (i + 2) % 24})
	}
	return g
}

// clone is a graph of its own.
func clone(g Graph) Graph {
	return Graph{slices.Clone(g.Clusters), slices.Clone(g.Loops), slices.Clone(g.Ops), slices.Clone(g.Channels)}
}

// same tells whether two graphs have the same elements.
func same(g, h Graph) bool {
	return slices.Equal(g.Clusters, h.Clusters) && slices.Equal(g.Loops, h.Loops) && slices.Equal(g.Ops, h.Ops) && slices.Equal(g.Channels, h.Channels)
}

// extremes are numbers that are the index, the kind, the number or the length of nothing.
var extremes = []int{math.MinInt, -1 << 32, -1000, 1000, 1 << 32, 1<<32 + 1, math.MaxInt}

// checkIs holds Check against what it should answer.
func checkIs(t *testing.T, name string, g Graph, want api.Errno) {
	t.Helper()
	if e := Check(g); e != want {
		t.Errorf("%s: Check = %d; want %d", name, e, want)
	}
}

// Promise 9.1: graphs with nothing wrong, from the smallest one to the greatest one.
func TestCheckRight(t *testing.T) {
	checkIs(t, "whole", whole(), api.OK)
	checkIs(t, "small", small(), api.OK)
	checkIs(t, "greatest", greatest(), api.OK)
	g := small()
	g.Ops, g.Channels = g.Ops[:1], nil
	checkIs(t, "smallest", g, api.OK)
	g.Loops, g.Channels = []Loop{}, []Channel{}
	checkIs(t, "empty lists", g, api.OK)
	// Names must be unlike within a list alone.
	g = small()
	g.Clusters[0].Name, g.Loops = "x", []Loop{{"x", -1, 1}, {"y", -1, 1}}
	checkIs(t, "the same names in each list", g, api.OK)
}

// Promise 9.1: a list with one element too many, though nothing else is wrong, and lists that are much too long.
func TestCheckLong(t *testing.T) {
	for _, more := range []int{1, 2, 100, 100000} {
		for i := range 4 {
			g := greatest()
			for j := range more {
				n := strconv.Itoa(j)
				switch i {
				case 0:
					g.Clusters = append(g.Clusters, Cluster{"m" + n, 1})
				case 1:
					g.Loops = append(g.Loops, Loop{"m" + n, -1, 1})
				case 2:
					g.Ops = append(g.Ops, Op{Name: "m" + n, Kind: Swap, Loop: -1})
				case 3:
					g.Channels = append(g.Channels, Channel{j % 24, (j + 4) % 24})
				}
			}
			checkIs(t, "list "+strconv.Itoa(i), g, api.ErrLong)
		}
	}
}

// Promise 9.1: no cluster, no operator, and nothing at all.
func TestCheckNone(t *testing.T) {
	checkIs(t, "nothing", Graph{}, api.ErrNone)
	checkIs(t, "empty lists", Graph{[]Cluster{}, []Loop{}, []Op{}, []Channel{}}, api.ErrNone)
	g := small()
	g.Clusters = nil
	checkIs(t, "no cluster", g, api.ErrNone)
	g = small()
	g.Ops = []Op{}
	checkIs(t, "no operator", g, api.ErrNone)
	g.Channels = nil
	checkIs(t, "no operator and no channel", g, api.ErrNone)
}

// renamed is the whole graph with another name for the element at a place of its clusters, its loops or its operators.
func renamed(list, at int, name string) Graph {
	g := whole()
	switch list {
	case 0:
		g.Clusters[at].Name = name
	case 1:
		g.Loops[at].Name = name
	case 2:
		g.Ops[at].Name = name
	}
	return g
}

// Promise 9.1: names at each place of each list: such as are none, such as occur earlier, and others.
func TestCheckNames(t *testing.T) {
	g := whole()
	names := [][]string{{}, {}, {}}
	for _, c := range g.Clusters {
		names[0] = append(names[0], c.Name)
	}
	for _, l := range g.Loops {
		names[1] = append(names[1], l.Name)
	}
	for _, o := range g.Ops {
		names[2] = append(names[2], o.Name)
	}
	for list, l := range names {
		for at := range l {
			for _, name := range []string{"", "-", "A", "1a", "9", "a b", " a", "a ", "a-", "a\n", "a=", "#a", "\xFF", "a\u00E9", "abcdefghijklm", strings.Repeat("x", 100000)} {
				checkIs(t, strconv.Quote(name), renamed(list, at, name), api.ErrField)
			}
			for _, name := range []string{"q", "a1", "abcdefghijkl", "op", "from", "input"} {
				checkIs(t, name, renamed(list, at, name), api.OK)
			}
			for other, name := range l {
				if other != at {
					checkIs(t, name+" again", renamed(list, at, name), api.ErrTwice)
				}
			}
		}
	}
}

// checkUpTo holds Check against what it should answer with each number from 1 to most at each place, and with others.
func checkUpTo(t *testing.T, name string, most, places int, put func(g *Graph, at, n int)) {
	t.Helper()
	for _, n := range append(extremes, -2, -1, 0, 1, 2, 3, 4, 5, 6, 7, 8, 9, 10, 16, 64) {
		want := api.ErrRange
		if 1 <= n && n <= most {
			want = api.OK
		}
		for at := range places {
			g := greatest()
			put(&g, at, n)
			checkIs(t, strconv.Itoa(n)+" "+name, g, want)
		}
	}
}

// Promise 9.1: each number of workers.
func TestCheckWorkers(t *testing.T) {
	checkUpTo(t, "workers", 4, 4, func(g *Graph, at, n int) { g.Clusters[at].Workers = n })
}

// Promise 9.1: each number of rounds.
func TestCheckRounds(t *testing.T) {
	checkUpTo(t, "rounds", 8, 6, func(g *Graph, at, n int) { g.Loops[at].Rounds = n })
}

// Promise 9.1: each way to put up to six loops into one another, and into what is no earlier loop.
func TestCheckUp(t *testing.T) {
	for n := range 7 {
		for code := range int(math.Pow(8, float64(n))) {
			g := small()
			want := api.OK
			depths := []int{}
			for i := range n {
				up := code%8 - 2
				code /= 8
				g.Loops = append(g.Loops, Loop{"l" + strconv.Itoa(i), up, 1})
				depth := 1
				if up < -1 || up >= i {
					want = cmp.Or(want, api.ErrRange)
				} else if up >= 0 {
					depth = depths[up] + 1
				}
				if depth > 3 {
					want = cmp.Or(want, api.ErrDepth)
				}
				depths = append(depths, depth)
			}
			if e := Check(g); e != want {
				t.Errorf("Check of the loops %v = %d; want %d", g.Loops, e, want)
			}
		}
	}
	for _, up := range extremes {
		for i := range 6 {
			g := greatest()
			g.Loops[i].Up = up
			checkIs(t, "Up "+strconv.Itoa(up), g, api.ErrRange)
		}
	}
}

// inLoop tells which operators must be in a loop, in none, or in either, as the chapter's table has it.
func inLoop(kind int) (mayBeIn, mayBeOut bool) {
	switch kind {
	case Input, Capture:
		return false, true
	case Enter, Leave, Next:
		return true, false
	}
	return true, true
}

// mayHave tells which numbers an operator may have, as the chapter's table has it.
func mayHave(kind int, a, b int64) bool {
	switch kind {
	case Map:
		return true
	case Filter:
		return 1 <= a && a <= 1000 && 0 <= b && b <= a-1
	case Rekey:
		return 1 <= a && a <= 1000 && b == 0
	case Delay:
		return 0 <= a && a <= 1000 && b == 0
	}
	return a == 0 && b == 0
}

// wantOp is what Check answers for a graph with two clusters, two loops and this operator.
func wantOp(o Op) api.Errno {
	if o.Kind < 1 || o.Kind > 14 {
		return api.ErrCommand
	}
	if o.Loop < -1 || o.Loop > 1 || o.At < 0 || o.At > 1 {
		return api.ErrRange
	}
	if in, out := inLoop(o.Kind); o.Loop >= 0 && !in || o.Loop < 0 && !out {
		return api.ErrDepth
	}
	if !mayHave(o.Kind, o.A, o.B) {
		return api.ErrRange
	}
	return api.OK
}

// Promise 9.1: an operator of each kind, and of what is none, in each loop and cluster, and in what is none, with numbers at the edges.
func TestCheckOps(t *testing.T) {
	g := Graph{Clusters: []Cluster{{"a", 1}, {"b", 1}}, Loops: []Loop{{"l", -1, 1}, {"m", 0, 8}}, Ops: []Op{{Name: "x", Kind: Swap, Loop: -1}, {}}}
	numbers := []int64{math.MinInt64, -1001, -1000, -2, -1, 0, 1, 2, 499, 500, 998, 999, 1000, 1001, 1 << 32, 1<<32 + 1, math.MaxInt64 - 1, math.MaxInt64}
	right := 0
	for kind := -3; kind <= 20; kind++ {
		for loop := -3; loop <= 4; loop++ {
			for at := -2; at <= 4; at++ {
				for _, a := range numbers {
					for _, b := range numbers {
						g.Ops[1] = Op{"y", kind, loop, at, a, b}
						want := wantOp(g.Ops[1])
						if e := Check(g); e != want {
							t.Errorf("Check with the operator %v = %d; want %d", g.Ops[1], e, want)
						}
						if want == api.OK {
							right++
						}
					}
				}
			}
		}
	}
	if right < 2000 {
		t.Errorf("only %d operators were right", right)
	}
}

// Promise 9.1: kinds, loops and clusters that are far from what there is.
func TestCheckFarOps(t *testing.T) {
	for _, v := range extremes {
		for i := range whole().Ops {
			g := whole()
			g.Ops[i].Kind = v
			checkIs(t, "Kind", g, api.ErrCommand)
			g = whole()
			g.Ops[i].Loop = v
			checkIs(t, "Loop", g, api.ErrRange)
			g = whole()
			g.Ops[i].At = v
			checkIs(t, "At", g, api.ErrRange)
		}
	}
	g := small()
	g.Ops[0].Kind, g.Ops[0].Loop = Enter, 0
	checkIs(t, "a loop of none", g, api.ErrRange)
}

// Promise 9.1: a Filter with each A and each B about it.
func TestCheckFilter(t *testing.T) {
	g := small()
	for a := int64(-3); a <= 1003; a++ {
		for _, b := range []int64{-2, -1, 0, 1, a - 2, a - 1, a, a + 1, a + 1000} {
			g.Ops = append(small().Ops, Op{"f", Filter, -1, 0, a, b})
			want := api.ErrRange
			if mayHave(Filter, a, b) {
				want = api.OK
			}
			checkIs(t, "filter "+strconv.FormatInt(a, 10)+" "+strconv.FormatInt(b, 10), g, want)
		}
	}
}

// twoLoops is a graph with loops in one another and beside them, an Input, a Capture, and an operator of each other kind in each loop that it may be in.
func twoLoops() Graph {
	g := Graph{Clusters: []Cluster{{"a", 1}}, Loops: []Loop{{"l", -1, 3}, {"m", 0, 2}, {"k", -1, 3}}}
	for kind := Input; kind <= Most; kind++ {
		for loop := -1; loop < 3; loop++ {
			in, out := inLoop(kind)
			if loop < 0 && out || loop >= 0 && in {
				g.Ops = append(g.Ops, Op{"o" + strconv.Itoa(len(g.Ops)), kind, loop, 0, 0, 0})
			}
		}
	}
	for i := range g.Ops {
		if kind := g.Ops[i].Kind; kind == Filter || kind == Rekey {
			g.Ops[i].A = 1
		}
	}
	return g
}

// loopIn is the loop of an operator's input, with a table of what is around each loop.
func loopIn(o Op, up []int) int {
	if o.Kind == Enter {
		return up[o.Loop]
	}
	return o.Loop
}

// loopOut is the loop of an operator's output.
func loopOut(o Op, up []int) int {
	if o.Kind == Leave {
		return up[o.Loop]
	}
	return o.Loop
}

// Promise 9.1: a channel from each operator to each other one and to itself.
func TestCheckChannels(t *testing.T) {
	all := twoLoops()
	up := []int{-1, 0, -1}
	counts := map[api.Errno]int{}
	for _, from := range all.Ops {
		for _, to := range all.Ops {
			g := Graph{Clusters: all.Clusters, Loops: all.Loops, Ops: []Op{{Name: "x", Kind: Input, Loop: -1}, from, to}, Channels: []Channel{{1, 2}}}
			if from.Name == to.Name {
				g.Ops, g.Channels = g.Ops[:2], []Channel{{1, 1}}
			}
			want := api.OK
			switch {
			case from.Kind == Capture || to.Kind == Input:
				want = api.ErrState
			case loopOut(from, up) != loopIn(to, up):
				want = api.ErrDepth
			}
			counts[want]++
			if e := Check(g); e != want {
				t.Errorf("Check with a channel from %v to %v = %d; want %d", from, to, e, want)
			}
		}
	}
	if len(counts) != 3 || counts[api.OK] < 100 {
		t.Errorf("channels: %v", counts)
	}
}

// Promise 9.1: a channel from or to what is no operator, and one that is there already.
func TestCheckEachChannel(t *testing.T) {
	for i := range whole().Channels {
		for _, v := range append(extremes, -2, -1, 24, 25, 48) {
			g := whole()
			g.Channels[i].From = v
			checkIs(t, "From", g, api.ErrRange)
			g = whole()
			g.Channels[i].To = v
			checkIs(t, "To", g, api.ErrRange)
		}
		for j := range whole().Channels {
			if i != j {
				g := whole()
				g.Channels[i] = g.Channels[j]
				checkIs(t, "twice", g, api.ErrTwice)
			}
		}
	}
	g := small()
	g.Channels = []Channel{{0, 1}, {0, 1}, {0, 1}}
	checkIs(t, "three times", g, api.ErrTwice)
	g.Ops = append(g.Ops, Op{Name: "z", Kind: Swap, Loop: -1})
	g.Channels = []Channel{{2, 2}, {0, 2}, {2, 1}, {0, 1}}
	checkIs(t, "channels that share an end", g, api.OK)
	g.Ops = append(g.Ops, Op{Name: "v", Kind: Swap, Loop: -1})
	g.Channels = []Channel{{2, 3}, {3, 2}}
	checkIs(t, "there and back", g, api.OK)
}

// fault is something that makes a graph wrong, and what Check answers then.
type fault struct {
	name  string
	spoil func(g *Graph)
	e     api.Errno
}

// listFaults are what is wrong with the lists of the whole graph as such.
func listFaults() []fault {
	return []fault{
		{"clusters", func(g *Graph) { g.Clusters = append(g.Clusters, make([]Cluster, 5)...) }, api.ErrLong},
		{"loops", func(g *Graph) { g.Loops = append(g.Loops, make([]Loop, 7)...) }, api.ErrLong},
		{"operators", func(g *Graph) { g.Ops = append(g.Ops, make([]Op, 25)...) }, api.ErrLong},
		{"channels", func(g *Graph) { g.Channels = append(g.Channels, make([]Channel, 49)...) }, api.ErrLong},
		{"no clusters", func(g *Graph) { g.Clusters = nil }, api.ErrNone},
		{"no operators", func(g *Graph) { g.Ops = nil }, api.ErrNone},
	}
}

// elementFaults are what is wrong with the clusters and the loops of the whole graph, in the order in which Check finds it.
func elementFaults() []fault {
	return []fault{
		{"cluster 0: name", func(g *Graph) { g.Clusters[0].Name = "A" }, api.ErrField},
		{"cluster 0: workers", func(g *Graph) { g.Clusters[0].Workers = 0 }, api.ErrRange},
		{"cluster 1: name", func(g *Graph) { g.Clusters[1].Name = "" }, api.ErrField},
		{"cluster 1: twice", func(g *Graph) { g.Clusters[1].Name = g.Clusters[0].Name }, api.ErrTwice},
		{"cluster 1: workers", func(g *Graph) { g.Clusters[1].Workers = 5 }, api.ErrRange},
		{"loop 0: name", func(g *Graph) { g.Loops[0].Name = "-" }, api.ErrField},
		{"loop 0: up", func(g *Graph) { g.Loops[0].Up = 0 }, api.ErrRange},
		{"loop 0: rounds", func(g *Graph) { g.Loops[0].Rounds = 9 }, api.ErrRange},
		{"loop 3: name", func(g *Graph) { g.Loops[3].Name = "1" }, api.ErrField},
		{"loop 3: twice", func(g *Graph) { g.Loops[3].Name = g.Loops[1].Name }, api.ErrTwice},
		{"loop 3: rounds", func(g *Graph) { g.Loops[3].Rounds = 0 }, api.ErrRange},
		{"loop 3: depth", func(g *Graph) { g.Loops[3].Up = 2 }, api.ErrDepth},
	}
}

// opFaults are what is wrong with the operators and the channels of the whole graph, in the order in which Check finds it.
func opFaults() []fault {
	return []fault{
		{"operator 3: name", func(g *Graph) { g.Ops[3].Name = "a b" }, api.ErrField},
		{"operator 3: twice", func(g *Graph) { g.Ops[3].Name = g.Ops[0].Name }, api.ErrTwice},
		{"operator 3: kind", func(g *Graph) { g.Ops[3].Kind = 15 }, api.ErrCommand},
		{"operator 3: loop", func(g *Graph) { g.Ops[3].Loop = 4 }, api.ErrRange},
		{"operator 3: A", func(g *Graph) { g.Ops[3].A = 1001 }, api.ErrRange},
		{"operator 3: B", func(g *Graph) { g.Ops[3].B = 1000 }, api.ErrRange},
		{"operator 7: name", func(g *Graph) { g.Ops[7].Name = "A" }, api.ErrField},
		{"operator 7: kind", func(g *Graph) { g.Ops[7].Kind = 0 }, api.ErrCommand},
		{"operator 7: cluster", func(g *Graph) { g.Ops[7].At = 2 }, api.ErrRange},
		{"operator 7: depth", func(g *Graph) { g.Ops[7].Loop = -1 }, api.ErrDepth},
		{"operator 7: B", func(g *Graph) { g.Ops[7].B = 1 }, api.ErrRange},
		{"channel 4: range", func(g *Graph) { g.Channels[4].To = 24 }, api.ErrRange},
		{"channel 4: state", func(g *Graph) { g.Channels[4] = Channel{4, 0} }, api.ErrState},
		{"channel 4: depth", func(g *Graph) { g.Channels[4] = Channel{3, 1} }, api.ErrDepth},
		{"channel 4: twice", func(g *Graph) { g.Channels[4] = g.Channels[1] }, api.ErrTwice},
		{"channel 9: range", func(g *Graph) { g.Channels[9].From = -1 }, api.ErrRange},
		{"channel 9: state", func(g *Graph) { g.Channels[9] = Channel{1, 19} }, api.ErrState},
		{"channel 9: depth", func(g *Graph) { g.Channels[9] = Channel{9, 14} }, api.ErrDepth},
		{"channel 9: twice", func(g *Graph) { g.Channels[9] = g.Channels[2] }, api.ErrTwice},
	}
}

func faults() []fault { return slices.Concat(listFaults(), elementFaults(), opFaults()) }

// Promise 9.1: of each two things that are wrong with a graph, Check answers the one that the chapter names first.
func TestCheckOrder(t *testing.T) {
	l := faults()
	for i, first := range l {
		g := whole()
		first.spoil(&g)
		checkIs(t, first.name, g, first.e)
		for _, second := range l[i+1:] {
			g := whole()
			second.spoil(&g)
			first.spoil(&g)
			checkIs(t, first.name+" ahead of "+second.name, g, first.e)
		}
	}
}

// Promise 9.1: errors of one element that come one ahead of the other.
func TestCheckOrderWithin(t *testing.T) {
	for _, c := range []struct {
		name  string
		spoil func(g *Graph)
		e     api.Errno
	}{
		{"a name that is none, twice", func(g *Graph) { g.Ops[0].Name, g.Ops[1].Name = "", "" }, api.ErrField},
		{"clusters: the name, though the next one is wrong", func(g *Graph) { g.Clusters[0].Workers, g.Clusters[1].Name = 9, "A" }, api.ErrRange},
		{"loops: the range of Up ahead of the depth", func(g *Graph) { g.Loops[3] = Loop{"k", 2, 0} }, api.ErrRange},
		{"operators: no kind ahead of no loop", func(g *Graph) { g.Ops[0].Kind, g.Ops[0].Loop, g.Ops[0].At = 0, 9, 9 }, api.ErrCommand},
		{"operators: no cluster ahead of the depth", func(g *Graph) { g.Ops[0].Loop, g.Ops[0].At = 0, 9 }, api.ErrRange},
		{"operators: the depth ahead of A", func(g *Graph) { g.Ops[0].Loop, g.Ops[0].A = 0, 9 }, api.ErrDepth},
		{"operators: A of the first one ahead of the name of the second one", func(g *Graph) { g.Ops[0].A, g.Ops[1].Name = 9, "" }, api.ErrRange},
		{"channels: the range ahead of the state", func(g *Graph) { g.Channels[0] = Channel{1, 24} }, api.ErrRange},
		{"channels: the state ahead of the depth", func(g *Graph) { g.Channels[0] = Channel{1, 3} }, api.ErrState},
		{"channels: the depth ahead of twice", func(g *Graph) { g.Channels[0], g.Channels[1] = Channel{0, 3}, Channel{0, 3} }, api.ErrDepth},
	} {
		g := whole()
		c.spoil(&g)
		checkIs(t, c.name, g, c.e)
	}
}

// Rule R4: no call changes what it is given, not even behind the end of a list.
func TestArgumentsStay(t *testing.T) {
	for _, g := range []Graph{whole(), small(), greatest(), {}} {
		g.Clusters = append(g.Clusters, Cluster{"behind", 7})
		g.Loops = append(g.Loops, Loop{"behind", 7, 7})
		g.Ops = append(g.Ops, Op{"behind", 7, 7, 7, 7, 7})
		g.Channels = append(g.Channels, Channel{7, 77})
		want := clone(g)
		short := Graph{g.Clusters[:len(g.Clusters)-1], g.Loops[:len(g.Loops)-1], g.Ops[:len(g.Ops)-1], g.Channels[:len(g.Channels)-1]}
		Check(short)
		Text(short)
		Flows(short)
		for i := range 50 {
			Scope(short, i)
			Inner(short, i)
			Fits(short, i, api.Time{})
		}
		if !same(g, want) {
			t.Errorf("the graph became %v; want %v", g, want)
		}
	}
}
