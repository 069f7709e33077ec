package graph

import (
	"slices"
	"strconv"
	"strings"
	"testing"

	"watershed/api"
	"watershed/words"
)

// smallText is the text of the chapter's example.
const smallText = "cluster a workers=1\nop x input in=- at=a\nop y capture in=- at=a\nfrom x to y\n"

// wholeText is the text of the whole graph.
const wholeText = `cluster a workers=1
cluster b2 workers=4
loop l in=- rounds=3
loop m in=l rounds=8
loop n in=m rounds=2
loop k in=- rounds=1
op x input in=- at=a
op y capture in=- at=b2
op ma map in=- at=a a=-5 b=7
op fi filter in=l at=b2 a=1000 b=999
op sw swap in=- at=a
op re rekey in=n at=a a=1
op el enter in=l at=b2
op em enter in=m at=a
op en enter in=n at=a
op ek enter in=k at=b2
op nl next in=l at=a
op nm next in=m at=b2
op nn next in=n at=a
op ll leave in=l at=a
op lm leave in=m at=a
op ln leave in=n at=b2
op lk leave in=k at=b2
op de delay in=m at=a a=1000
op d0 delay in=- at=a a=0
op su sum in=n at=a
op co count in=- at=b2
op le least in=l at=a
op mo most in=k at=b2
op thelongest12 input in=- at=b2
from x to ma
from ma to sw
from sw to el
from el to fi
from fi to em
from em to de
from de to en
from en to re
from re to su
from su to nn
from nn to re
from nn to ln
from ln to nm
from nm to de
from nm to lm
from lm to nl
from nl to fi
from nl to ll
from ll to y
from sw to ek
from ek to mo
from mo to lk
from lk to y
from thelongest12 to co
from co to d0
from d0 to y
from thelongest12 to y
from le to le
`

// checkParse holds Parse against what it should return.
func checkParse(t *testing.T, s string, want Graph, line int, e api.Errno) {
	t.Helper()
	if g, n, f := Parse(s); !same(g, want) || n != line || f != e {
		t.Errorf("Parse of %q = %v, %d, %d; want %v, %d, %d", s, g, n, f, want, line, e)
	}
}

// checkWrong holds Parse against the error that it should return, in a line or, if that is 0, in the whole.
func checkWrong(t *testing.T, s string, line int, e api.Errno) {
	t.Helper()
	checkParse(t, s, Graph{}, line, e)
}

// checkText holds Text against what it should return.
func checkText(t *testing.T, g Graph, want string, e api.Errno) {
	t.Helper()
	if s, f := Text(g); s != want || f != e {
		t.Errorf("Text of %v = %q, %d; want %q, %d", g, s, f, want, e)
	}
}

// Promise 9.2: the lines of elements of each kind, and the graphs that they say.
func TestTextAndParse(t *testing.T) {
	checkText(t, whole(), wholeText, api.OK)
	checkParse(t, wholeText, whole(), 0, api.OK)
	checkText(t, small(), smallText, api.OK)
	checkParse(t, smallText, small(), 0, api.OK)
}

// Promise 9.2: Text of what is no graph has the error of Check.
func TestTextErrors(t *testing.T) {
	for _, c := range faults() {
		g := whole()
		c.spoil(&g)
		checkText(t, g, "", c.e)
	}
	checkText(t, Graph{}, "", api.ErrNone)
}

// Promise 9.2: lines without words, comments, further spaces, and no line feed at the end.
func TestParseLines(t *testing.T) {
	for _, s := range []string{
		strings.TrimSuffix(smallText, "\n"),
		"\n\n" + smallText + "\n\n   \n",
		strings.ReplaceAll(smallText, "\n", "\n\n"),
		strings.ReplaceAll(smallText, "\n", " \n  # from y to x\n#\n"),
		strings.ReplaceAll(smallText, "\n", " #\n"),
		strings.ReplaceAll(smallText, "\n", "   # what cluster op\n"),
		strings.ReplaceAll(smallText, " ", "    "),
		"  " + strings.ReplaceAll(smallText, "\n", "  \n   "),
		strings.Repeat("\n", 100000) + smallText,
	} {
		checkParse(t, s, small(), 0, api.OK)
	}
}

// Promise 9.2: lines in any order, as long as each name stands ahead of the line that refers to it.
func TestParseOrder(t *testing.T) {
	checkParse(t, `loop l in=- rounds=2
cluster b workers=2
op y capture in=- at=b
op x input in=- at=b
from x to y
loop m in=l rounds=4
cluster a workers=3
op e enter in=l at=a
from x to e
op f filter in=m at=b a=7 b=6
`, Graph{
		Clusters: []Cluster{{"b", 2}, {"a", 3}},
		Loops:    []Loop{{"l", -1, 2}, {"m", 0, 4}},
		Ops:      []Op{{"y", Capture, -1, 0, 0, 0}, {"x", Input, -1, 0, 0, 0}, {"e", Enter, 0, 1, 0, 0}, {"f", Filter, 1, 0, 7, 6}},
		Channels: []Channel{{1, 0}, {1, 2}},
	}, 0, api.OK)
	lines := words.Lines(smallText)
	for i, c := range []struct {
		order []int
		line  int
	}{
		{[]int{0, 1, 2, 3}, 0},
		{[]int{0, 2, 1, 3}, 0},
		{[]int{1, 0, 2, 3}, 1},
		{[]int{0, 1, 3, 2}, 3},
		{[]int{0, 3, 1, 2}, 2},
		{[]int{3, 0, 1, 2}, 1},
		{[]int{2, 1, 0, 3}, 1},
	} {
		s := ""
		for _, j := range c.order {
			s += lines[j] + "\n"
		}
		g, n, e := Parse(s)
		if n != c.line || (e == api.OK) != (c.line == 0) || e != api.OK && e != api.ErrNone {
			t.Errorf("order %d: %v, %d, %d", i, g, n, e)
		}
	}
}

// Promise 9.2: a name refers to an element of its own list.
func TestParseLists(t *testing.T) {
	const s = "cluster a workers=1\nloop b in=- rounds=1\nop c swap in=- at=a\n"
	for _, c := range []struct {
		line string
		e    api.Errno
	}{
		{"loop d in=a rounds=1", api.ErrNone},
		{"loop d in=c rounds=1", api.ErrNone},
		{"loop d in=d rounds=1", api.ErrNone},
		{"op d swap in=a at=a", api.ErrNone},
		{"op d swap in=c at=a", api.ErrNone},
		{"op d swap in=- at=b", api.ErrNone},
		{"op d swap in=- at=c", api.ErrNone},
		{"op d swap in=- at=-", api.ErrNone},
		{"op d swap in=d at=a", api.ErrNone},
		{"from a to c", api.ErrNone},
		{"from c to a", api.ErrNone},
		{"from b to c", api.ErrNone},
		{"from c to b", api.ErrNone},
		{"from - to c", api.ErrNone},
		{"from c to -", api.ErrNone},
		{"from cc to c", api.ErrNone},
		{"from c to C", api.ErrNone},
	} {
		checkWrong(t, s+c.line, 4, c.e)
	}
	checkParse(t, s+"from c to c\nop b next in=b at=a\nloop a in=b rounds=1\ncluster c workers=1", Graph{
		Clusters: []Cluster{{"a", 1}, {"c", 1}},
		Loops:    []Loop{{"b", -1, 1}, {"a", 0, 1}},
		Ops:      []Op{{"c", Swap, -1, 0, 0, 0}, {"b", Next, 0, 0, 0, 0}},
		Channels: []Channel{{0, 0}},
	}, 0, api.OK)
}

// wrongLines are lines that are wrong behind the small text with a loop l, and their first error.
func wrongLines() map[string]api.Errno {
	return map[string]api.Errno{
		"what":                              api.ErrCommand,
		"Cluster b workers=1":               api.ErrCommand,
		"clusters b workers=1":              api.ErrCommand,
		"clus":                              api.ErrCommand,
		"to x":                              api.ErrCommand,
		"relay r":                           api.ErrCommand,
		"\tcluster b workers=1":             api.ErrCommand,
		"-":                                 api.ErrCommand,
		"cluster":                           api.ErrField,
		"cluster b":                         api.ErrField,
		"cluster b workers=1 x":             api.ErrField,
		"cluster b workers=1 workers=1":     api.ErrField,
		"cluster b 1":                       api.ErrField,
		"cluster b worker=1":                api.ErrField,
		"cluster b Workers=1":               api.ErrField,
		"cluster b workers":                 api.ErrField,
		"cluster b workers:1":               api.ErrField,
		"cluster b xworkers=1":              api.ErrField,
		"cluster workers=1 b":               api.ErrField,
		"cluster b workers=1\r":             api.ErrField,
		"cluster b # workers=1":             api.ErrField,
		"loop":                              api.ErrField,
		"loop m in=-":                       api.ErrField,
		"loop m rounds=1":                   api.ErrField,
		"loop m in=- rounds=1 x":            api.ErrField,
		"loop m rounds=1 in=-":              api.ErrField,
		"loop m -  rounds=1":                api.ErrField,
		"loop m in:- rounds=1":              api.ErrField,
		"loop m in=- round=1":               api.ErrField,
		"loop m in= rounds=1":               api.ErrNone,
		"loop m in=-- rounds=1":             api.ErrNone,
		"loop m in=ll rounds=1":             api.ErrNone,
		"loop m in=q rounds=x":              api.ErrNone,
		"loop m in=q 1":                     api.ErrNone,
		"loop m q rounds=x":                 api.ErrField,
		"op":                                api.ErrField,
		"op z":                              api.ErrField,
		"op z swap":                         api.ErrField,
		"op z swap in=q":                    api.ErrField,
		"op z swap at=a":                    api.ErrField,
		"op z what in=q at=q":               api.ErrField,
		"op z Swap in=- at=a":               api.ErrField,
		"op z swaps in=- at=a":              api.ErrField,
		"op z 5 in=- at=a":                  api.ErrField,
		"op z in=- swap at=a":               api.ErrField,
		"op z swap in=q at=a x":             api.ErrField,
		"op z swap in=- at=a a=0":           api.ErrField,
		"op z swap in=- at=a a=0 b=0":       api.ErrField,
		"op z map in=q at=a":                api.ErrField,
		"op z map in=- at=a a=1":            api.ErrField,
		"op z map in=- at=a b=1":            api.ErrField,
		"op z map in=- at=a a=1 b=1 c=1":    api.ErrField,
		"op z filter in=q at=a a=1":         api.ErrField,
		"op z filter in=- at=a a=1 b=0 x":   api.ErrField,
		"op z rekey in=- at=a":              api.ErrField,
		"op z rekey in=q at=a a=1 b=0":      api.ErrField,
		"op z delay in=- at=a":              api.ErrField,
		"op z delay in=- at=a a=1 b=0":      api.ErrField,
		"op z swap at=a in=-":               api.ErrField,
		"op z swap - at=a":                  api.ErrField,
		"op z swap in=- a":                  api.ErrField,
		"op z swap in=- at:a":               api.ErrField,
		"op z swap in= at=a":                api.ErrNone,
		"op z swap in=- at=":                api.ErrNone,
		"op z swap in=q at:a":               api.ErrNone,
		"op z swap q at=q":                  api.ErrField,
		"op z swap in=l at=aa":              api.ErrNone,
		"op z map in=- at=a b=1 a=1":        api.ErrField,
		"op z map in=- at=a a=1 a=1":        api.ErrField,
		"op z map in=- at=a a=1 2":          api.ErrField,
		"op z map in=- at=a 1 b=2":          api.ErrField,
		"op z map in=- at=a a1 b=2":         api.ErrField,
		"op z map in=- at=q a=x b=x":        api.ErrNone,
		"op z map in=q at=a a=x b=x":        api.ErrNone,
		"op z map at=q in=q a=x b=x":        api.ErrField,
		"op z delay in=- at=a b=1":          api.ErrField,
		"op z rekey in=- at=a A=1":          api.ErrField,
		"from":                              api.ErrField,
		"from x":                            api.ErrField,
		"from x to":                         api.ErrField,
		"from x y":                          api.ErrField,
		"from x to y z":                     api.ErrField,
		"from q to":                         api.ErrField,
		"from x too y":                      api.ErrField,
		"from x t y":                        api.ErrField,
		"from x To y":                       api.ErrField,
		"from x = y":                        api.ErrField,
		"from q too y":                      api.ErrNone,
		"from x too q":                      api.ErrField,
		"from x to q":                       api.ErrNone,
		"from q to y":                       api.ErrNone,
		"from x to #y":                      api.ErrField,
		"cluster b workers=1#":              api.ErrField,
		"op z map in=- at=a a=1 b=1#2 #":    api.ErrField,
		"op z swap in=- at=a\tx":            api.ErrNone,
		"op \xFF swap in=\xFF at=a":         api.ErrNone,
		"\xFF":                              api.ErrCommand,
		"op z\x00 swap in=- at=a\x00 #\x00": api.ErrNone,
	}
}

// Promise 9.2: the first line that is wrong, its number and its first error, wherever it stands, and whatever is wrong behind it and with the whole.
func TestParseWrong(t *testing.T) {
	const start = smallText + "loop l in=- rounds=2\n"
	for line, e := range wrongLines() {
		checkWrong(t, start+line, 6, e)
		checkWrong(t, start+line+"\n", 6, e)
		checkWrong(t, start+line+"\nwhat\ncluster\nfrom q to q\n", 6, e)
		checkWrong(t, "\n# comment\n\n"+start+"\n \n"+line, 11, e)
		// What Check finds comes behind what is wrong with a line.
		checkWrong(t, start+"cluster a workers=99\nop - swap in=- at=a\n"+line, 8, e)
		checkWrong(t, strings.Repeat("cluster a workers=1\n", 10)+start+line, 16, e)
	}
	for line, e := range map[string]api.Errno{"what": api.ErrCommand, "cluster a": api.ErrField, "from x to x": api.ErrNone} {
		checkWrong(t, line, 1, e)
		checkWrong(t, "\n"+line, 2, e)
		checkWrong(t, "\n\n#\n"+line+"\n"+smallText, 4, e)
	}
}

// Promise 9.2: what stands where a number is required must be one that words.Signed takes.
func TestParseNumbers(t *testing.T) {
	const start = smallText + "loop l in=- rounds=2\n"
	lines := []string{
		"cluster b workers=", "loop m in=l rounds=", "op z rekey in=- at=a a=", "op z delay in=- at=a a=", "op z map in=- at=a a=", "op z map in=- at=a a=1 b=", "op z filter in=- at=a a=7 b=",
	}
	for _, line := range lines {
		for _, word := range []string{"", "x", "+1", "01", "00", "-0", "-", "--1", "1.0", "1e3", "0x1", "=1", "1=", "1_0", "9223372036854775808", "-9223372036854775809", "18446744073709551617", "\u0661", "\xFF", strings.Repeat("1", 100000)} {
			s := start + line + word
			if strings.HasSuffix(line, "map in=- at=a a=") {
				s += " b=1"
			}
			checkWrong(t, s, 6, api.ErrField)
		}
	}
	// These are numbers, though no graph may have them.
	for _, word := range []string{"-1", "1001", "4294967297", "9223372036854775807", "-9223372036854775808"} {
		for _, line := range lines {
			if !strings.Contains(line, "map") {
				checkWrong(t, start+line+word, 0, api.ErrRange)
			}
		}
	}
	checkWrong(t, start+"cluster b workers=0", 0, api.ErrRange)
	checkWrong(t, start+"loop m in=l rounds=0", 0, api.ErrRange)
}

// Promise 9.2: the numbers of the operators that have some.
func TestParseOpNumbers(t *testing.T) {
	for _, c := range []struct {
		line string
		want Op
	}{
		{"map in=- at=a a=0 b=0", Op{Kind: Map}},
		{"map in=- at=a a=-9223372036854775808 b=9223372036854775807", Op{Kind: Map, A: -1 << 63, B: 1<<63 - 1}},
		{"map in=- at=a a=9223372036854775807 b=-9223372036854775808", Op{Kind: Map, A: 1<<63 - 1, B: -1 << 63}},
		{"filter in=- at=a a=1 b=0", Op{Kind: Filter, A: 1}},
		{"filter in=- at=a a=1000 b=999", Op{Kind: Filter, A: 1000, B: 999}},
		{"rekey in=- at=a a=1", Op{Kind: Rekey, A: 1}},
		{"rekey in=- at=a a=1000", Op{Kind: Rekey, A: 1000}},
		{"delay in=- at=a a=0", Op{Kind: Delay}},
		{"delay in=- at=a a=1000", Op{Kind: Delay, A: 1000}},
	} {
		g := small()
		c.want.Name, c.want.Loop = "z", -1
		g.Ops, g.Channels = append(g.Ops, c.want), append(g.Channels, Channel{0, 2})
		s := strings.Replace(smallText, "from", "op z "+c.line+"\nfrom", 1) + "from x to z\n"
		checkParse(t, s, g, 0, api.OK)
		checkText(t, g, s, api.OK)
	}
}

// Promise 9.2: a text whose lines are right, though the graph is not, has the error of Check and the number 0.
func TestParseChecks(t *testing.T) {
	const loops = "loop l in=- rounds=1\nloop m in=l rounds=1\nloop n in=m rounds=1\n"
	for _, c := range []struct {
		more string
		e    api.Errno
	}{
		{"cluster B workers=1", api.ErrField},
		{"cluster - workers=1", api.ErrField},
		{"cluster abcdefghijklm workers=1", api.ErrField},
		{"cluster in= workers=1", api.ErrField},
		{"cluster a workers=1", api.ErrTwice},
		{"cluster b workers=5", api.ErrRange},
		{"cluster c workers=1\ncluster d workers=1\ncluster e workers=1\ncluster f workers=1\n", api.ErrLong},
		{"loop 1 in=- rounds=1", api.ErrField},
		{"loop - in=- rounds=1\nop z swap in=- at=a", api.ErrField},
		{loops + "loop m in=- rounds=1", api.ErrTwice},
		{"loop l in=- rounds=9", api.ErrRange},
		{loops + "loop k in=n rounds=1", api.ErrDepth},
		{loops + "loop q in=- rounds=1\nloop r in=- rounds=1\nloop s in=- rounds=1\nloop t in=- rounds=1", api.ErrLong},
		{"op Z swap in=- at=a", api.ErrField},
		{"op x swap in=- at=a", api.ErrTwice},
		{"op z enter in=- at=a", api.ErrDepth},
		{"op z leave in=- at=a", api.ErrDepth},
		{"op z next in=- at=a", api.ErrDepth},
		{loops + "op z input in=l at=a", api.ErrDepth},
		{loops + "op z capture in=n at=a", api.ErrDepth},
		{"op z filter in=- at=a a=3 b=3", api.ErrRange},
		{"op z delay in=- at=a a=-1", api.ErrRange},
		{"from y to x", api.ErrState},
		{"from y to y", api.ErrState},
		{"from x to x", api.ErrState},
		{loops + "op z swap in=l at=a\nfrom x to z", api.ErrDepth},
		{"from x to y", api.ErrTwice},
	} {
		checkWrong(t, smallText+c.more, 0, c.e)
	}
	many := ""
	for i := range 23 {
		many += "op o" + strconv.Itoa(i) + " swap in=- at=a\n"
	}
	checkWrong(t, smallText+many, 0, api.ErrLong)
	many = ""
	for range 48 {
		many += "from x to y\n"
	}
	checkWrong(t, smallText+many, 0, api.ErrLong)
	for _, s := range []string{"", "\n", "# only a comment", "   \n\n", "cluster a workers=1", "cluster a workers=1\nloop l in=- rounds=1", "loop l in=- rounds=1"} {
		checkWrong(t, s, 0, api.ErrNone)
	}
}

// form is what the words of a line behind the first one are, by the first one or, for an operator, by its kind: text for itself, and in angle brackets what stands for a name or a number.
func form(first, kind string) (string, bool) {
	switch first {
	case "cluster":
		return "<any> workers=<number>", true
	case "loop":
		return "<any> in=<loop> rounds=<number>", true
	case "from":
		return "<op> to <op>", true
	}
	switch kind {
	case "map", "filter":
		return "<any> <any> in=<loop> at=<cluster> a=<number> b=<number>", true
	case "rekey", "delay":
		return "<any> <any> in=<loop> at=<cluster> a=<number>", true
	case "sum", "input", "enter":
		return "<any> <any> in=<loop> at=<cluster>", true
	}
	return "", false
}

// wordError is what is wrong with a word of a form, in a text with the cluster a, the loop l and the operators x and y.
func wordError(w, form string) api.Errno {
	front, what, _ := strings.Cut(form, "<")
	if what == "" && w != form || !strings.HasPrefix(w, front) {
		return api.ErrField
	}
	names := map[string][]string{"loop>": {"-", "l"}, "cluster>": {"a"}, "op>": {"x", "y"}}
	if l, ok := names[what]; ok && !slices.Contains(l, w[len(front):]) {
		return api.ErrNone
	}
	if _, err := strconv.Atoi(w[len(front):]); what == "number>" && err != nil {
		return api.ErrField
	}
	return api.OK
}

// lineError is what is wrong with a line as the chapter defines it.
func lineError(w []string) api.Errno {
	if !slices.Contains([]string{"cluster", "loop", "op", "from"}, w[0]) {
		return api.ErrCommand
	}
	kind := ""
	if w[0] == "op" && len(w) > 2 {
		kind = w[2]
	}
	f, ok := form(w[0], kind)
	forms := strings.Split(f, " ")
	if !ok || len(forms) != len(w)-1 {
		return api.ErrField
	}
	for i, f := range forms {
		if e := wordError(w[i+1], f); e != api.OK {
			return e
		}
	}
	return api.OK
}

// Promise 9.2: all lines of words that may be at their places, at others, or nowhere.
func TestParseAllLines(t *testing.T) {
	const start = "cluster a workers=1\nloop l in=- rounds=2\nop x input in=- at=a\nop y capture in=- at=a\n"
	middle := []string{"to", "x", "in=l", "in=-", "in=q", "at=a", "at=x", "a=1", "b=0", "b=x", "workers=2", "rounds=3"}
	seconds := []string{"z", "x", "to"}
	thirds := append([]string{"map", "rekey", "sum"}, middle...)
	counts := map[api.Errno]int{}
	var longer func(w []string, most int)
	longer = func(w []string, most int) {
		line := strings.Join(w, " ")
		want := lineError(w)
		counts[want]++
		if _, n, e := Parse(start + line); want != api.OK && (n != 5 || e != want) || want == api.OK && n != 0 {
			t.Errorf("Parse of the line %q = %d, %d; want error %d", line, n, e, want)
		}
		if len(w) == most {
			return
		}
		next := middle
		switch len(w) {
		case 1:
			next = seconds
		case 2:
			next = thirds
		}
		for _, word := range next {
			longer(append(slices.Clone(w), word), most)
		}
	}
	for _, first := range []string{"cluster", "loop", "from", "what"} {
		longer([]string{first}, 5)
	}
	for _, kind := range []string{"map", "filter", "rekey", "delay", "sum", "input", "enter", "what"} {
		longer([]string{"op", "z", kind}, 7)
	}
	if counts[api.OK] < 20 || counts[api.ErrNone] < 1000 || counts[api.ErrField] < 1000 || counts[api.ErrCommand] == 0 {
		t.Errorf("lines: %v", counts)
	}
}

// Promise 9.4: Parse inverts Text, for an operator of each kind in each loop and cluster, with numbers at the edges.
func TestParseInvertsText(t *testing.T) {
	inverts := func(g Graph) {
		t.Helper()
		s, e := Text(g)
		if e != api.OK {
			t.Fatalf("Text of %v = %d", g, e)
		}
		checkParse(t, s, g, 0, api.OK)
	}
	for _, g := range []Graph{whole(), small(), greatest()} {
		inverts(g)
	}
	for _, o := range twoLoops().Ops {
		for at := range 4 {
			for _, a := range []int64{-1 << 63, -7, 0, 1, 500, 1000, 1<<63 - 1} {
				for _, b := range []int64{-1 << 63, -7, 0, 1, 499, 999, 1<<63 - 1} {
					if mayHave(o.Kind, a, b) {
						g := greatest()
						g.Loops, g.Channels = twoLoops().Loops, nil
						o.At, o.A, o.B = at, a, b
						g.Ops = []Op{o}
						inverts(g)
					}
				}
			}
		}
	}
}

// Promise 9.4: Text of what Parse makes of a text is that text, with one space between its words, and with its lines in the order of the lists.
func TestTextInvertsParse(t *testing.T) {
	for _, s := range []string{
		"  op  x   swap in=-  at=a # comment\n\nfrom x to x\ncluster b workers=2\nloop l in=-   rounds=1\nop z map in=l at=b a=-3 b=4",
	} {
		g, n, e := Parse("cluster a workers=1\n" + s)
		if n != 0 || e != api.OK {
			t.Fatalf("Parse = %v, %d, %d", g, n, e)
		}
		checkText(t, g, "cluster a workers=1\ncluster b workers=2\nloop l in=- rounds=1\nop x swap in=- at=a\nop z map in=l at=b a=-3 b=4\nfrom x to x\n", api.OK)
	}
}

// Rule R6: texts beyond every limit end with their error, though each line refers to the one ahead of it.
func TestParseLong(t *testing.T) {
	const n = 100000
	var s strings.Builder
	s.WriteString("cluster a workers=1\nloop l in=- rounds=1\nop o swap in=- at=a\n")
	for i := range n {
		w := strconv.Itoa(i)
		up := "l" + strconv.Itoa(i-1)
		if i == 0 {
			up = "l"
		}
		s.WriteString("cluster c" + w + " workers=1\nloop l" + w + " in=" + up + " rounds=1\nop o" + w + " swap in=l" + w + " at=c" + w + "\nfrom o to o" + w + "\n")
	}
	checkWrong(t, s.String(), 0, api.ErrLong)
	checkWrong(t, s.String()+"what", 3+4*n+1, api.ErrCommand)
	checkWrong(t, strings.Repeat("x", 1<<22), 1, api.ErrCommand)
	checkWrong(t, "cluster "+strings.Repeat("x", 1<<22)+" workers=1\nop x swap in=- at="+strings.Repeat("x", 1<<22), 0, api.ErrField)
}

// Rule R4: two graphs of one text share no memory.
func TestParsedIsNew(t *testing.T) {
	first, _, _ := Parse(wholeText)
	second, _, _ := Parse(wholeText)
	for i := range first.Clusters {
		first.Clusters[i] = Cluster{}
	}
	for i := range first.Loops {
		first.Loops[i] = Loop{}
	}
	for i := range first.Ops {
		first.Ops[i] = Op{}
	}
	for i := range first.Channels {
		first.Channels[i] = Channel{}
	}
	if !same(second, whole()) {
		t.Errorf("the second graph became %v", second)
	}
	checkParse(t, wholeText, whole(), 0, api.OK)
}
