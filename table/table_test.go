package table

import (
	"fmt"
	"math/rand"
	"slices"
	"strings"
	"testing"

	"watershed/api"
	"watershed/graph"
)

// checkIs holds Check against what it should return.
func checkIs(t *testing.T, what string, p Plan, g graph.Graph, want api.Errno) {
	t.Helper()
	if e := Check(p, g); e != want {
		t.Errorf("%s: Check = %d; want %d", what, e, want)
	}
}

// Promise 18.1: plans with nothing wrong, from the smallest one to the greatest one.
func TestCheckRight(t *testing.T) {
	checkIs(t, "small", small(), two(), api.OK)
	checkIs(t, "greatest", greatest(), four(), api.OK)
	checkIs(t, "nothing", Plan{}, graphOf("a"), api.OK)
	checkIs(t, "empty lists", Plan{[]string{}, []Route{}}, two(), api.OK)
	checkIs(t, "relays alone", Plan{Relays: greatest().Relays}, graphOf("a"), api.OK)
	checkIs(t, "a route over none", Plan{Routes: []Route{{1, 0, nil}}}, two(), api.OK)
	checkIs(t, "the same relay on each route", Plan{[]string{"r"}, []Route{{1, 0, []int{0}}, {0, 1, []int{0}}}}, two(), api.OK)
	// Only the names of clusters and of relays must be unlike.
	checkIs(t, "the name of an operator", Plan{Relays: []string{"x", "relay", "route", "via"}}, two(), api.OK)
}

// Promise 18.1: lists with one element too many, and much too many.
func TestCheckLong(t *testing.T) {
	for _, more := range []int{1, 2, 100, 100000} {
		p := greatest()
		for i := range more {
			p.Relays = append(p.Relays, fmt.Sprint("m", i))
		}
		checkIs(t, "relays", p, four(), api.ErrLong)
		p.Routes = nil
		checkIs(t, "relays alone", p, two(), api.ErrLong)
		p = greatest()
		p.Routes = append(p.Routes, make([]Route, more)...)
		checkIs(t, "routes", p, four(), api.ErrLong)
		p.Relays = nil
		checkIs(t, "routes alone", p, two(), api.ErrLong)
	}
	// Thirteen routes are too many ahead of one of them being there twice.
	p := greatest()
	p.Routes = append(p.Routes, p.Routes[0])
	checkIs(t, "a route again", p, four(), api.ErrLong)
}

// Promise 18.1: names of relays that are none.
func TestCheckNames(t *testing.T) {
	wrong := []string{"", "7", "7r", "R", "rS", "r s", "r-", "-", "é", "r\x00", "\xff", "thirteenbytes", strings.Repeat("r", 1000), "r\n", " r", "#r", "via="}
	for _, name := range wrong {
		for at := range 4 {
			p := greatest()
			p.Relays[at] = name
			checkIs(t, fmt.Sprintf("%q", name), p, four(), api.ErrField)
		}
	}
	for _, name := range []string{"q", "z9", "twelvebytes1", "q00000000000"} {
		for at := range 4 {
			p := greatest()
			p.Relays[at] = name
			checkIs(t, name, p, four(), api.OK)
		}
	}
}

// Promise 18.1: names of relays that occur earlier, or are those of clusters.
func TestCheckTwice(t *testing.T) {
	for at := range 4 {
		for from := range at {
			p := greatest()
			p.Relays[at] = p.Relays[from]
			checkIs(t, "a relay's", p, four(), api.ErrTwice)
		}
		for _, c := range four().Clusters {
			p := greatest()
			p.Relays[at] = c.Name
			checkIs(t, "a cluster's", p, four(), api.ErrTwice)
		}
	}
	// The relays of one graph may be the clusters of another one.
	checkIs(t, "relay a of b and c", Plan{Relays: []string{"a"}}, graphOf("b", "c"), api.OK)
	checkIs(t, "relay b of b and c", Plan{Relays: []string{"b"}}, graphOf("b", "c"), api.ErrTwice)
}

// Promise 18.1: numbers that are no cluster's or no relay's, in each place.
func TestCheckRange(t *testing.T) {
	g := four()
	for _, n := range append([]int{4, 5, 7}, extremes...) {
		for at := range 12 {
			p := greatest()
			p.Routes[at].From = n
			checkIs(t, "From", p, g, api.ErrRange)
			p = greatest()
			p.Routes[at].To = n
			checkIs(t, "To", p, g, api.ErrRange)
			p = greatest()
			p.Routes[at].From, p.Routes[at].To = n, n+1
			checkIs(t, "both", p, g, api.ErrRange)
			for i := range p.Routes[at].Via {
				p = greatest()
				p.Routes[at].Via[i] = n
				checkIs(t, "Via", p, g, api.ErrRange)
			}
		}
	}
	for n := range 4 {
		p := Plan{Routes: []Route{{n, n, nil}}}
		checkIs(t, "to itself", p, g, api.ErrRange)
		// The numbers that may be there are those of this graph and of this plan.
		p = Plan{Relays: greatest().Relays[:n], Routes: []Route{{0, 1, []int{n}}}}
		checkIs(t, "a relay that another plan has", p, g, api.ErrRange)
		p = Plan{Relays: greatest().Relays[:n+1], Routes: []Route{{0, 1, []int{n}}}}
		checkIs(t, "the last relay", p, g, api.OK)
	}
	checkIs(t, "a cluster that another graph has", Plan{Routes: []Route{{0, 2, nil}}}, two(), api.ErrRange)
	checkIs(t, "a cluster that another graph has", Plan{Routes: []Route{{2, 0, nil}}}, two(), api.ErrRange)
}

// Promise 18.1: a relay that is twice on a route, and routes between the same clusters.
func TestCheckRoutesTwice(t *testing.T) {
	for i := range 12 {
		for j := range i {
			p := greatest()
			p.Routes[i].From, p.Routes[i].To = p.Routes[j].From, p.Routes[j].To
			checkIs(t, "a route again", p, four(), api.ErrTwice)
		}
	}
	for n := range 4 {
		for _, via := range [][]int{{n, n}, {(n + 1) % 4, n, n}, {n, (n + 1) % 4, n}, {n, n, (n + 1) % 4}, {n, (n + 1) % 4, (n + 2) % 4, (n + 3) % 4, n}, {0, 1, 2, 3, n}} {
			p := Plan{greatest().Relays, []Route{{1, 0, nil}, {0, 1, via}}}
			checkIs(t, fmt.Sprint(via), p, two(), api.ErrTwice)
			// What is no relay comes ahead of what is there twice.
			p.Routes[1].Via = append(slices.Clone(via), 4)
			checkIs(t, fmt.Sprint(p.Routes[1].Via), p, two(), api.ErrRange)
		}
	}
	// A relay is twice on a route, and the next route is wrong in another way.
	p := Plan{[]string{"r"}, []Route{{0, 1, []int{0, 0}}, {0, 2, nil}}}
	checkIs(t, "the first route", p, two(), api.ErrTwice)
	p.Routes[0].Via = nil
	checkIs(t, "the second route", p, two(), api.ErrRange)
}

// Promise 18.1: lists of relays without end.
func TestCheckEndless(t *testing.T) {
	via := make([]int, 1<<22)
	checkIs(t, "one relay", Plan{[]string{"r"}, []Route{{0, 1, via}}}, two(), api.ErrTwice)
	for i := range via {
		via[i] = i
	}
	checkIs(t, "all numbers", Plan{greatest().Relays, []Route{{0, 1, via}}}, two(), api.ErrRange)
	for i := range via {
		via[i] = i % 4
	}
	checkIs(t, "four relays", Plan{greatest().Relays, []Route{{0, 1, via}}}, two(), api.ErrTwice)
	via[len(via)-1] = -1
	checkIs(t, "no relay at the end", Plan{greatest().Relays, []Route{{0, 1, via}}}, two(), api.ErrRange)
}

// Promises 18.1 to 18.3: of two things that are wrong, the first one is told, by each call, beside zero results.
func TestFirstFault(t *testing.T) {
	l := faults()
	for i, a := range l {
		for _, b := range l[i:] {
			p, g := greatest(), four()
			b.spoil(&p, &g)
			a.spoil(&p, &g)
			all(t, a.what+" and "+b.what, p, g)
			checkIs(t, a.what+" and "+b.what, p, g, a.e)
		}
	}
}

// Promises 18.1 to 18.3: each thing that is wrong, on its own.
func TestOneFault(t *testing.T) {
	for _, f := range faults() {
		p, g := greatest(), four()
		f.spoil(&p, &g)
		checkIs(t, f.what, p, g, f.e)
		all(t, f.what, p, g)
	}
}

// Promises 18.1 to 18.3: what is no graph has the error of graph.Check, whatever the plan is.
func TestNoGraph(t *testing.T) {
	bad := four()
	bad.Channels = []graph.Channel{{From: 0, To: 0}}
	for _, g := range []graph.Graph{{}, {Clusters: two().Clusters}, {Ops: two().Ops}, graphOf("a", "a"), graphOf("a", "B"), graphOf("a", "b", "c", "d", "e"), bad} {
		for _, p := range []Plan{{}, small(), greatest(), {Relays: []string{"", "a"}}, {Relays: make([]string, 9), Routes: make([]Route, 13)}} {
			if graph.Check(g) == api.OK {
				t.Fatalf("a graph: %v", g)
			}
			checkIs(t, "no graph", p, g, graph.Check(g))
			all(t, "no graph", p, g)
		}
	}
}

// all holds Check, Text, Ends, Way, Next and Ahead, for all numbers from -1 to 8, against what they should return.
func all(t *testing.T, what string, p Plan, g graph.Graph) {
	e := wantCheck(p, g)
	if f := Check(p, g); f != e {
		t.Errorf("%s: Check of %v = %d; want %d", what, p, f, e)
	}
	want, e := wantText(p, g)
	if s, f := Text(p, g); s != want || f != e {
		t.Errorf("%s: Text of %v = %q, %d; want %q, %d", what, p, s, f, want, e)
	}
	ends := 0
	if e == api.OK {
		ends = len(g.Clusters) + len(p.Relays)
	}
	if n := Ends(p, g); n != ends {
		t.Errorf("%s: Ends of %v = %d; want %d", what, p, n, ends)
	}
	for from := -1; from <= 8; from++ {
		for to := -1; to <= 8; to++ {
			way(t, what, p, g, from, to)
		}
	}
}

// way holds Way, and Next and Ahead at all numbers from -1 to 8, against what they should return.
func way(t *testing.T, what string, p Plan, g graph.Graph, from, to int) {
	want, e := wantWay(p, g, from, to)
	if l, f := Way(p, g, from, to); !slices.Equal(l, want) || f != e {
		t.Errorf("%s: Way of %v, %d, %d = %v, %d; want %v, %d", what, p, from, to, l, f, want, e)
	}
	back := turned(want)
	for at := -1; at <= 8; at++ {
		n, f := wantBeside(want, e, at)
		if x, y := Next(p, g, from, to, at); x != n || y != f {
			t.Errorf("%s: Next of %v, %d, %d, %d = %d, %d; want %d, %d", what, p, from, to, at, x, y, n, f)
		}
		n, f = wantBeside(back, e, at)
		if x, y := Ahead(p, g, from, to, at); x != n || y != f {
			t.Errorf("%s: Ahead of %v, %d, %d, %d = %d, %d; want %d, %d", what, p, from, to, at, x, y, n, f)
		}
	}
}

// Promise 18.3: the chapter's example.
func TestExample(t *testing.T) {
	p, g := small(), two()
	if n := Ends(p, g); n != 3 {
		t.Errorf("Ends = %d; want 3", n)
	}
	for _, c := range []struct {
		from, to int
		want     []int
	}{{0, 1, []int{0, 2, 1}}, {1, 0, []int{1, 0}}} {
		if l, e := Way(p, g, c.from, c.to); !slices.Equal(l, c.want) || e != api.OK {
			t.Errorf("Way from %d to %d = %v, %d; want %v", c.from, c.to, l, e, c.want)
		}
	}
	if n, e := Next(p, g, 0, 1, 0); n != 2 || e != api.OK {
		t.Errorf("Next from 0 to 1 at 0 = %d, %d; want 2", n, e)
	}
	if n, e := Ahead(p, g, 0, 1, 1); n != 2 || e != api.OK {
		t.Errorf("Ahead from 0 to 1 at 1 = %d, %d; want 2", n, e)
	}
	for _, c := range []struct {
		at       int
		next, to api.Errno
	}{{0, api.OK, api.ErrNone}, {1, api.ErrNone, api.OK}, {2, api.OK, api.OK}, {3, api.ErrNone, api.ErrNone}, {-1, api.ErrNone, api.ErrNone}} {
		if _, e := Next(p, g, 0, 1, c.at); e != c.next {
			t.Errorf("Next at %d = %d; want %d", c.at, e, c.next)
		}
		if _, e := Ahead(p, g, 0, 1, c.at); e != c.to {
			t.Errorf("Ahead at %d = %d; want %d", c.at, e, c.to)
		}
	}
}

// Promise 18.3: the greatest plan, in which each relay has a number behind those of the four clusters.
func TestGreatest(t *testing.T) {
	p, g := greatest(), four()
	all(t, "greatest", p, g)
	if n := Ends(p, g); n != 8 {
		t.Errorf("Ends = %d; want 8", n)
	}
	for _, c := range [][]int{{0, 4, 1}, {0, 5, 4, 2}, {0, 3}, {1, 7, 6, 5, 4, 0}, {1, 4, 5, 6, 7, 3}, {3, 6, 4, 7, 0}, {2, 3}} {
		if l, e := Way(p, g, c[0], c[len(c)-1]); !slices.Equal(l, c) || e != api.OK {
			t.Errorf("Way = %v, %d; want %v", l, e, c)
		}
	}
}

// Promise 18.3: numbers that are no end's, some of which look like one's in fewer bits.
func TestExtremes(t *testing.T) {
	p, g := greatest(), four()
	for _, n := range extremes {
		for other := range 4 {
			way(t, "extremes", p, g, n, other)
			way(t, "extremes", p, g, other, n)
			for to := range 4 {
				e := api.ErrNone
				if other == to {
					e = api.ErrRange
				}
				if x, f := Next(p, g, other, to, n); x != 0 || f != e {
					t.Errorf("Next at %d = %d, %d; want %d", n, x, f, e)
				}
				if x, f := Ahead(p, g, other, to, n); x != 0 || f != e {
					t.Errorf("Ahead at %d = %d, %d; want %d", n, x, f, e)
				}
			}
		}
		way(t, "extremes", p, g, n, n)
	}
}

// lists are all lists of at most so many of some numbers.
func lists(most int, numbers ...int) [][]int {
	l := [][]int{nil}
	for at := 0; most > 0; most-- {
		end := len(l)
		for _, front := range l[at:end] {
			for _, n := range numbers {
				l = append(l, append(slices.Clone(front), n))
			}
		}
		at = end
	}
	return l
}

// Promises 18.1 to 18.3: all plans of two routes over two relays between two clusters, with numbers that are none's too.
func TestAllSmall(t *testing.T) {
	var routes []Route
	for from := -1; from <= 2; from++ {
		for to := -1; to <= 2; to++ {
			for _, via := range lists(2, -1, 0, 1, 2) {
				routes = append(routes, Route{from, to, via})
			}
		}
	}
	g := two()
	for _, relays := range [][]string{nil, {"r"}, {"r", "s"}, {"b"}, {"r", "r"}, {"r", "S"}} {
		for _, r := range routes {
			all(t, "one route", Plan{relays, []Route{r}}, g)
			for _, s := range routes {
				p := Plan{relays, []Route{r, s}}
				if e, want := Check(p, g), wantCheck(p, g); e != want {
					t.Errorf("Check of %v = %d; want %d", p, e, want)
				}
			}
		}
	}
}

// anyPlan is a plan of any size for so many clusters, nearly all of whose elements are right.
func anyPlan(r *rand.Rand, clusters int) Plan {
	p := Plan{Relays: greatest().Relays[:r.Intn(5)]}
	if r.Intn(10) == 0 {
		p.Relays = append(slices.Clone(p.Relays), []string{"a", "r", "s", "U", ""}[r.Intn(5)])
	}
	var ways [][2]int
	for from := range clusters {
		for to := range clusters {
			if from != to {
				ways = append(ways, [2]int{from, to})
			}
		}
	}
	r.Shuffle(len(ways), func(i, j int) { ways[i], ways[j] = ways[j], ways[i] })
	for _, w := range ways[:r.Intn(len(ways)+1)] {
		via := r.Perm(len(p.Relays))
		p.Routes = append(p.Routes, Route{w[0], w[1], via[:r.Intn(len(via)+1)]})
	}
	if len(p.Routes) > 0 && r.Intn(8) == 0 {
		x := &p.Routes[r.Intn(len(p.Routes))]
		switch r.Intn(4) {
		case 0:
			x.From = r.Intn(6) - 1
		case 1:
			x.To = r.Intn(6) - 1
		case 2:
			x.Via = append(x.Via, r.Intn(7)-1)
		case 3:
			p.Routes = append(p.Routes, *x)
		}
	}
	return p
}

// Promises 18.1 to 18.4: plans of all sizes, each for graphs of up to four clusters.
func TestManyPlans(t *testing.T) {
	right := 0
	for seed := range int64(1500) {
		r := rand.New(rand.NewSource(seed))
		g := four()
		g.Clusters = g.Clusters[:1+r.Intn(4)]
		p := anyPlan(r, len(g.Clusters))
		all(t, fmt.Sprint("seed ", seed), p, g)
		if Check(p, g) == api.OK {
			right++
			walked(t, p, g)
			turnedBack(t, p, g)
		}
	}
	if right < 1000 {
		t.Errorf("only %d plans are right", right)
	}
}

// walked holds that Next visits each way of a plan that is right from its beginning to its end, and Ahead leads back.
func walked(t *testing.T, p Plan, g graph.Graph) {
	for from := range g.Clusters {
		for to := range g.Clusters {
			if from == to {
				continue
			}
			l, _ := Way(p, g, from, to)
			at := from
			for i := 1; i < len(l); i++ {
				n, e := Next(p, g, from, to, at)
				back, f := Ahead(p, g, from, to, n)
				if n != l[i] || back != at || e != api.OK || f != api.OK {
					t.Errorf("from %d to %d in %v: Next at %d = %d, %d, and Ahead of it %d, %d; the way is %v", from, to, p, at, n, e, back, f, l)
				}
				at = n
			}
			if at != to || l[0] != from {
				t.Errorf("the way from %d to %d in %v is %v", from, to, p, l)
			}
		}
	}
}

// Promise 18.4: Next leads along the whole way, and Ahead back.
func TestWalk(t *testing.T) {
	walked(t, small(), two())
	walked(t, greatest(), four())
	walked(t, Plan{}, four())
}

// Promises 18.1 to 18.3: results are new memory, and what is given stays as it is, with what is behind its end.
func TestOwnMemory(t *testing.T) {
	p, g := greatest(), four()
	for i := range p.Routes {
		p.Routes[i].Via = append(make([]int, 0, 10), p.Routes[i].Via...)
	}
	p.Relays = append(make([]string, 0, 10), p.Relays...)
	before := cloneOf(p)
	a, _ := Way(p, g, 0, 2)
	b, _ := Way(p, g, 0, 2)
	for i := range a {
		a[i] = 9
	}
	_ = append(a, 9)
	if c, _ := Way(p, g, 0, 2); !slices.Equal(b, []int{0, 5, 4, 2}) || !slices.Equal(b, c) {
		t.Errorf("ways share memory: %v and %v", b, c)
	}
	all(t, "greatest", p, g)
	if !same(p, before) {
		t.Errorf("the plan was changed: %v", p)
	}
	for _, r := range p.Routes {
		for _, n := range r.Via[len(r.Via):cap(r.Via)] {
			if n != 0 {
				t.Errorf("behind the end of %v stands %d", r.Via, n)
			}
		}
	}
	for _, s := range p.Relays[len(p.Relays):cap(p.Relays)] {
		if s != "" {
			t.Errorf("behind the relays stands %q", s)
		}
	}
}
