package graph

import (
	"strings"

	"watershed/api"
	"watershed/words"
)

// The words of a graph's lines.
const (
	clusterWord = "cluster"
	loopWord    = "loop"
	opWord      = "op"
	fromWord    = "from"
	toWord      = "to"
	noLoopWord  = "-"
)

// What the words begin with that say something.
const (
	workersFront = "workers="
	roundsFront  = "rounds="
	inFront      = "in="
	atFront      = "at="
	aFront       = "a="
	bFront       = "b="
)

// draft is a graph that is being parsed, and where in its lists the names are.
type draft struct {
	g                    Graph
	clusters, loops, ops map[string]int
}

// Parse is the graph of a text, and the line that is wrong.
func Parse(s string) (Graph, int, api.Errno) {
	d := draft{clusters: map[string]int{}, loops: map[string]int{}, ops: map[string]int{}}
	for i, l := range words.Lines(s) {
		if e := d.add(words.Split(l)); e != api.OK {
			return Graph{}, i + 1, e
		}
	}
	if e := Check(d.g); e != api.OK {
		return Graph{}, 0, e
	}
	return d.g, 0, api.OK
}

// add adds what the words of a line say.
func (d *draft) add(w []string) api.Errno {
	if len(w) == 0 {
		return api.OK
	}
	switch w[0] {
	case clusterWord:
		return d.addCluster(w)
	case loopWord:
		return d.addLoop(w)
	case opWord:
		return d.addOp(w)
	case fromWord:
		return d.addChannel(w)
	}
	return api.ErrCommand
}

// addCluster adds what a line says like: cluster NAME workers=N
func (d *draft) addCluster(w []string) api.Errno {
	if len(w) != 3 {
		return api.ErrField
	}
	workers, e := number(w[2], workersFront)
	if e != api.OK {
		return e
	}
	d.clusters[w[1]] = len(d.g.Clusters)
	d.g.Clusters = append(d.g.Clusters, Cluster{Name: w[1], Workers: int(workers)})
	return api.OK
}

// addLoop adds what a line says like: loop NAME in=LOOP rounds=N
func (d *draft) addLoop(w []string) api.Errno {
	if len(w) != 4 {
		return api.ErrField
	}
	up, e := d.loopOf(w[2])
	if e != api.OK {
		return e
	}
	rounds, e := number(w[3], roundsFront)
	if e != api.OK {
		return e
	}
	d.loops[w[1]] = len(d.g.Loops)
	d.g.Loops = append(d.g.Loops, Loop{Name: w[1], Up: up, Rounds: int(rounds)})
	return api.OK
}

// addOp adds what a line says like: op NAME KIND in=LOOP at=CLUSTER a=A b=B
func (d *draft) addOp(w []string) api.Errno {
	const shortest = 5
	if len(w) < shortest {
		return api.ErrField
	}
	kind := kindOf(w[2])
	if kind == 0 || len(w) != shortest+kinds[kind].numbers {
		return api.ErrField
	}
	loop, e := d.loopOf(w[3])
	if e != api.OK {
		return e
	}
	at, e := place(w[4], atFront, d.clusters)
	if e != api.OK {
		return e
	}
	a, b, e := numbersOf(w[shortest:])
	if e != api.OK {
		return e
	}
	d.ops[w[1]] = len(d.g.Ops)
	d.g.Ops = append(d.g.Ops, Op{Name: w[1], Kind: kind, Loop: loop, At: at, A: a, B: b})
	return api.OK
}

// addChannel adds what a line says like: from NAME to NAME
func (d *draft) addChannel(w []string) api.Errno {
	if len(w) != 4 {
		return api.ErrField
	}
	from, e := place(w[1], "", d.ops)
	if e != api.OK {
		return e
	}
	if w[2] != toWord {
		return api.ErrField
	}
	to, e := place(w[3], "", d.ops)
	if e != api.OK {
		return e
	}
	d.g.Channels = append(d.g.Channels, Channel{From: from, To: to})
	return api.OK
}

// loopOf is the loop that a word says.
func (d *draft) loopOf(word string) (int, api.Errno) {
	if word == inFront+noLoopWord {
		return noLoop, api.OK
	}
	return place(word, inFront, d.loops)
}

// place is where in a list the name is that stands behind a word's front.
func place(word, front string, places map[string]int) (int, api.Errno) {
	name, ok := strings.CutPrefix(word, front)
	if !ok {
		return 0, api.ErrField
	}
	i, ok := places[name]
	if !ok {
		return 0, api.ErrNone
	}
	return i, api.OK
}

// number is the number that stands behind a word's front.
func number(word, front string) (int64, api.Errno) {
	digits, ok := strings.CutPrefix(word, front)
	if !ok {
		return 0, api.ErrField
	}
	return words.Signed(digits)
}

// numbersOf is the A and the B that up to two words say; 0 where there is no word.
func numbersOf(w []string) (a, b int64, e api.Errno) {
	if len(w) > 0 {
		a, e = number(w[0], aFront)
	}
	if len(w) > 1 && e == api.OK {
		b, e = number(w[1], bFront)
	}
	return a, b, e
}

// kindOf is the kind whose word this is, or 0.
func kindOf(word string) int {
	for i := Input; i < len(kinds); i++ {
		if kinds[i].word == word {
			return i
		}
	}
	return 0
}

// Text is a graph in writing.
func Text(g Graph) (string, api.Errno) {
	if e := Check(g); e != api.OK {
		return "", e
	}
	var s strings.Builder
	for _, c := range g.Clusters {
		writeLine(&s, clusterWord, c.Name, workersFront+words.Number(int64(c.Workers)))
	}
	for _, l := range g.Loops {
		writeLine(&s, loopWord, l.Name, inWord(g, l.Up), roundsFront+words.Number(int64(l.Rounds)))
	}
	for _, o := range g.Ops {
		writeLine(&s, opWords(g, o)...)
	}
	for _, c := range g.Channels {
		writeLine(&s, fromWord, g.Ops[c.From].Name, toWord, g.Ops[c.To].Name)
	}
	return s.String(), api.OK
}

// writeLine adds a line of these words to a text.
func writeLine(s *strings.Builder, w ...string) {
	s.WriteString(strings.Join(w, " "))
	s.WriteString("\n")
}

// inWord is the word that says in which loop something is.
func inWord(g Graph, loop int) string {
	if loop == noLoop {
		return inFront + noLoopWord
	}
	return inFront + g.Loops[loop].Name
}

// opWords are the words of an operator's line.
func opWords(g Graph, o Op) []string {
	k := kinds[o.Kind]
	w := []string{opWord, o.Name, k.word, inWord(g, o.Loop), atFront + g.Clusters[o.At].Name}
	numbers := []string{aFront + words.Number(o.A), bFront + words.Number(o.B)}
	return append(w, numbers[:k.numbers]...)
}
