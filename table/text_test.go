package table

import (
	"slices"
	"strings"
	"testing"

	"watershed/api"
	"watershed/graph"
)

// smallText and greatestText are the texts of small and of greatest.
const smallText = "relay r\nroute a b via r\n"

const greatestText = `relay r
relay s
relay t7
relay alsolongest1
route a b via r
route a c3 via s r
route a thelongest12 via
route b a via alsolongest1 t7 s r
route b c3 via t7 alsolongest1
route b thelongest12 via r s t7 alsolongest1
route c3 a via s r
route c3 b via alsolongest1
route c3 thelongest12 via
route thelongest12 a via t7 r alsolongest1
route thelongest12 b via s
route thelongest12 c3 via t7
`

// parseIs holds Parse against what it should return.
func parseIs(t *testing.T, s string, g graph.Graph, want Plan, line int, e api.Errno) {
	t.Helper()
	if p, n, f := Parse(s, g); !same(p, want) || n != line || f != e {
		t.Errorf("Parse of %q = %v, %d, %d; want %v, %d, %d", s, p, n, f, want, line, e)
	}
}

// wrongIs holds Parse against the error that it should return, in a line or, if that is 0, in the whole.
func wrongIs(t *testing.T, s string, line int, e api.Errno) {
	t.Helper()
	parseIs(t, s, two(), Plan{}, line, e)
}

// turnedBack holds that Parse returns a plan that is right from its text.
func turnedBack(t *testing.T, p Plan, g graph.Graph) {
	t.Helper()
	s, e := Text(p, g)
	if e != api.OK {
		t.Errorf("Text of %v = %d", p, e)
	}
	parseIs(t, s, g, p, 0, api.OK)
}

// Promises 18.2 and 18.4: plans in writing, and the plans that the texts say.
func TestTextAndParse(t *testing.T) {
	for _, c := range []struct {
		p Plan
		g graph.Graph
		s string
	}{
		{small(), two(), smallText},
		{greatest(), four(), greatestText},
		{Plan{}, two(), ""},
		{Plan{Relays: []string{"x", "relay", "via", "route"}}, two(), "relay x\nrelay relay\nrelay via\nrelay route\n"},
		{Plan{Routes: []Route{{1, 0, nil}}}, two(), "route b a via\n"},
		{Plan{[]string{"via"}, []Route{{1, 0, []int{0}}}}, graphOf("relay", "route"), "relay via\nroute route relay via via\n"},
	} {
		if s, e := Text(c.p, c.g); s != c.s || e != api.OK {
			t.Errorf("Text of %v = %q, %d; want %q", c.p, s, e, c.s)
		}
		parseIs(t, c.s, c.g, c.p, 0, api.OK)
	}
}

// Promise 18.2: lines without words, comments, further spaces, and no line feed at the end.
func TestParseLines(t *testing.T) {
	for _, s := range []string{
		strings.TrimSuffix(smallText, "\n"),
		"\n\n" + smallText + "\n\n   \n",
		strings.ReplaceAll(smallText, "\n", "\n\n"),
		strings.ReplaceAll(smallText, "\n", " \n  # route b a via\n#\n"),
		strings.ReplaceAll(smallText, "\n", " #\n"),
		strings.ReplaceAll(smallText, "\n", "   # s via\n"),
		strings.ReplaceAll(smallText, " ", "    "),
		"  " + strings.ReplaceAll(smallText, "\n", "  \n   "),
		strings.Repeat("\n", 100000) + smallText,
	} {
		parseIs(t, s, two(), small(), 0, api.OK)
	}
	for _, s := range []string{"", "\n", "   ", "# relay r", "\n  \n#what"} {
		parseIs(t, s, two(), Plan{}, 0, api.OK)
	}
}

// Promise 18.2: lines that are wrong, and where several things are, the first of them.
func TestParseWrong(t *testing.T) {
	for _, c := range []struct {
		line string
		e    api.Errno
	}{
		{"what", api.ErrCommand},
		{"Relay q", api.ErrCommand},
		{"relays q", api.ErrCommand},
		{"rela q", api.ErrCommand},
		{"routes a b via", api.ErrCommand},
		{"via a b", api.ErrCommand},
		{"cluster a workers=1", api.ErrCommand},
		{"op x input in=- at=a", api.ErrCommand},
		{"r", api.ErrCommand},
		{"\trelay q", api.ErrCommand},
		{"relay\tq", api.ErrCommand},
		{"relay", api.ErrField},
		{"relay q p", api.ErrField},
		{"relay # q", api.ErrField},
		{"relay q p what else", api.ErrField},
		{"route", api.ErrField},
		{"route b", api.ErrField},
		{"route b a", api.ErrField},
		{"route what", api.ErrField},
		{"route what what", api.ErrField},
		{"route b a # via", api.ErrField},
		{"route c a via", api.ErrNone},
		{"route b c via", api.ErrNone},
		{"route c c what", api.ErrNone},
		{"route B a via", api.ErrNone},
		{"route b A via", api.ErrNone},
		{"route r a via", api.ErrNone},
		{"route a r via", api.ErrNone},
		{"route bb a via", api.ErrNone},
		{"route 0 1 via", api.ErrNone},
		{"route via via via", api.ErrNone},
		{"route c a what what", api.ErrNone},
		{"route a c what what", api.ErrNone},
		{"route b a what", api.ErrField},
		{"route b a Via", api.ErrField},
		{"route b a via=", api.ErrField},
		{"route b a vi", api.ErrField},
		{"route b a r", api.ErrField},
		{"route b a r s", api.ErrField},
		{"route b a r via", api.ErrField},
		{"route b a what what", api.ErrField},
		{"route b a via what", api.ErrNone},
		{"route b a via r what", api.ErrNone},
		{"route b a via what r", api.ErrNone},
		{"route b a via a", api.ErrNone},
		{"route b a via b", api.ErrNone},
		{"route b a via x", api.ErrNone},
		{"route b a via q", api.ErrNone},
		{"route b a via 0", api.ErrNone},
		{"route b a via via", api.ErrNone},
		{"route b a via R", api.ErrNone},
		{"route b a via r,s", api.ErrNone},
		{"route b a via rr", api.ErrNone},
	} {
		lines := []string{"relay r", "relay s", "", "route a b via s r"}
		for at := 2; at <= len(lines); at++ {
			s := strings.Join(slices.Insert(slices.Clone(lines), at, c.line), "\n")
			wrongIs(t, s, at+1, c.e)
			// A line behind it, and what is wrong in the whole, are not looked at.
			wrongIs(t, "relay Z\nrelay z\nrelay z\nroute a a via\n"+s+"\nnot this\nrelay", at+5, c.e)
		}
	}
}

// Promise 18.2: relays are defined ahead of the lines that refer to them.
func TestParseOrder(t *testing.T) {
	const s, r, route = "relay s\n", "relay r\n", "route a b via r s\n"
	want := Plan{[]string{"s", "r"}, []Route{{0, 1, []int{1, 0}}}}
	parseIs(t, s+r+route, two(), want, 0, api.OK)
	want.Relays, want.Routes[0].Via = []string{"r", "s"}, []int{0, 1}
	parseIs(t, r+s+route, two(), want, 0, api.OK)
	wrongIs(t, r+route+s, 2, api.ErrNone)
	wrongIs(t, s+route+r, 2, api.ErrNone)
	wrongIs(t, route+r+s, 1, api.ErrNone)
	want = Plan{[]string{"r", "s"}, []Route{{1, 0, nil}, {0, 1, []int{0}}}}
	parseIs(t, "route b a via\n"+r+"route a b via r\n"+s, two(), want, 0, api.OK)
}

// Promise 18.2: what is wrong in the whole is told by Check, with the number 0.
func TestParseWhole(t *testing.T) {
	for _, c := range []struct {
		s string
		e api.Errno
	}{
		{"relay r\nrelay r", api.ErrTwice},
		{"relay r\nrelay s\nrelay r\nroute a b via r", api.ErrTwice},
		{"relay a", api.ErrTwice},
		{"relay a\nroute a b via a", api.ErrTwice},
		{"relay R", api.ErrField},
		{"relay R\nroute a b via R", api.ErrField},
		{"relay thirteenbytes", api.ErrField},
		{"relay r=\nrelay r=", api.ErrField},
		{"relay r\nrelay r\nrelay R", api.ErrTwice},
		{"relay p\nrelay q\nrelay r\nrelay s\nrelay t", api.ErrLong},
		{"relay r\nrelay r\nrelay r\nrelay r\nrelay r", api.ErrLong},
		{strings.Repeat("route a b via\n", 13), api.ErrLong},
		{strings.Repeat("route a a via\n", 12), api.ErrRange},
		{strings.Repeat("route a b via\n", 12), api.ErrTwice},
		{"route a a via", api.ErrRange},
		{"route a b via\nroute b b via", api.ErrRange},
		{"route a b via\nroute a b via", api.ErrTwice},
		{"relay r\nroute a b via r\nroute a b via", api.ErrTwice},
		{"relay r\nroute a b via r r", api.ErrTwice},
		{"relay r\nroute a a via r r", api.ErrRange},
	} {
		wrongIs(t, c.s, 0, c.e)
		// A line that is wrong comes ahead of it.
		wrongIs(t, c.s+"\nwhat", strings.Count(c.s, "\n")+2, api.ErrCommand)
	}
}

// Promise 18.2: what is no graph has the error of graph.Check, with the number 0, whatever the text is.
func TestParseNoGraph(t *testing.T) {
	for _, g := range []graph.Graph{{}, {Ops: two().Ops}, graphOf("a", "a"), graphOf("a", "B"), graphOf("a", "b", "c", "d", "e")} {
		for _, s := range []string{"", smallText, "what", "relay", "relay r\nrelay r", "route a b via r", greatestText} {
			parseIs(t, s, g, Plan{}, 0, graph.Check(g))
		}
	}
}

// Promise 18.2: all texts of a line of up to six of some words, behind the lines of two relays.
func TestParseAllLines(t *testing.T) {
	vocabulary := []string{"relay", "route", "via", "a", "b", "r", "s"}
	front := [][]string{{"relay", "r"}, {"relay", "s"}}
	g := two()
	var extend func(w []string)
	extend = func(w []string) {
		s := "relay r\nrelay s\n" + strings.Join(w, " ")
		want, line, e := wantParse(append(slices.Clone(front), w), g)
		if p, n, f := Parse(s, g); !same(p, want) || n != line || f != e {
			t.Errorf("Parse of %q = %v, %d, %d; want %v, %d, %d", s, p, n, f, want, line, e)
		}
		if len(w) == 6 {
			return
		}
		for _, word := range vocabulary {
			extend(append(slices.Clone(w), word))
		}
	}
	extend(nil)
}

// Promise 18.2: all texts of up to five of some lines.
func TestParseAllTexts(t *testing.T) {
	lines := []string{"", "relay r", "relay s", "relay a", "route a b via r", "route b a via s r", "route a b via", "route a c via", "what"}
	g := two()
	var extend func(l []string)
	extend = func(l []string) {
		var split [][]string
		for _, line := range l {
			split = append(split, strings.Fields(line))
		}
		s := strings.Join(l, "\n")
		want, line, e := wantParse(split, g)
		if p, n, f := Parse(s, g); !same(p, want) || n != line || f != e {
			t.Errorf("Parse of %q = %v, %d, %d; want %v, %d, %d", s, p, n, f, want, line, e)
		}
		if len(l) == 5 {
			return
		}
		for _, line := range lines {
			extend(append(slices.Clone(l), line))
		}
	}
	extend(nil)
}

// Promise 18.2: texts without end, which are none of a plan.
func TestParseEndless(t *testing.T) {
	const many = 1 << 17
	wrongIs(t, strings.Repeat("relay r\n", many), 0, api.ErrLong)
	wrongIs(t, strings.Repeat("route a b via\n", many), 0, api.ErrLong)
	wrongIs(t, "relay r\nroute a b via"+strings.Repeat(" r", many), 0, api.ErrTwice)
	wrongIs(t, "relay r\nroute a b via"+strings.Repeat(" r", many)+" s", 2, api.ErrNone)
	wrongIs(t, "relay"+strings.Repeat(" r", many), 1, api.ErrField)
	wrongIs(t, "relay "+strings.Repeat("r", many), 0, api.ErrField)
	// So many names, each of which is asked for.
	var relays, names strings.Builder
	for i := range many {
		name := "r" + strings.Repeat("i", i%7) + string(rune('a'+i%26)) + string(rune('0'+i%10))
		relays.WriteString("relay " + name + "\n")
		names.WriteString(" " + name)
	}
	wrongIs(t, relays.String()+"route a b via"+names.String(), 0, api.ErrLong)
}

// Promise 18.2: plans of one text are independent, and what is given stays as it is.
func TestParseOwnMemory(t *testing.T) {
	p, _, _ := Parse(greatestText, four())
	q, _, _ := Parse(greatestText, four())
	for i := range p.Routes {
		_ = append(p.Routes[i].Via, 9)
		for j := range p.Routes[i].Via {
			p.Routes[i].Via[j] = 9
		}
		p.Routes[i].From = 9
	}
	p.Relays[0] = "z"
	if !same(q, greatest()) {
		t.Errorf("plans share memory: %v", q)
	}
	parseIs(t, greatestText, four(), greatest(), 0, api.OK)
}
