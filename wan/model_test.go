package wan

import (
	"fmt"
	"math/rand"
	"slices"
	"testing"

	"watershed/api"
)

// link is where a letter goes from and to.
type link struct{ from, to int }

// model is a network as the chapter defines it: every letter that ever was in transit, and which of them still are.
type model struct {
	ends int
	all  []Letter
	// Indexes of all, in the order of the list of those in transit.
	waits []int
	cut   map[link]bool
	// Calls of Send that were ErrDown or ErrFull, and letters that Cut lost.
	refused, cutOff int
	// Letters that were sent, doubled and taken.
	sent, doubled, taken int
}

func newModel(n int) *model { return &model{ends: n, cut: map[link]bool{}} }

// leads tells whether there is a link from one number to another.
func (m *model) leads(from, to int) bool {
	for a := range m.ends {
		for b := range m.ends {
			if a != b && a == from && b == to {
				return true
			}
		}
	}
	return false
}

// The kinds of calls that change a network.
const (
	doSend = iota
	doTake
	doDouble
	doCut
	doMend
)

// call is a call that changes a network.
type call struct {
	kind     int
	from, to int
	s        string
	i        int
}

func send(from, to int, s string) call { return call{kind: doSend, from: from, to: to, s: s} }

func take(i int) call { return call{kind: doTake, i: i} }

func double(i int) call { return call{kind: doDouble, i: i} }

func cut(from, to int) call { return call{kind: doCut, from: from, to: to} }

func mend(from, to int) call { return call{kind: doMend, from: from, to: to} }

// String is a call as a failed test tells it.
func (c call) String() string {
	switch c.kind {
	case doSend:
		return fmt.Sprintf("Send(%d, %d, %d bytes)", c.from, c.to, len(c.s))
	case doTake:
		return fmt.Sprintf("Take(%d)", c.i)
	case doDouble:
		return fmt.Sprintf("Double(%d)", c.i)
	}
	return fmt.Sprintf("Cut(%d, %d, %v)", c.from, c.to, c.kind == doCut)
}

// on makes the call on a network.
func (c call) on(w *Wan) (Letter, api.Errno) {
	switch c.kind {
	case doSend:
		return Letter{}, w.Send(Letter{From: c.from, To: c.to, S: c.s})
	case doTake:
		return w.Take(c.i)
	case doDouble:
		return Letter{}, w.Double(c.i)
	}
	return Letter{}, w.Cut(c.from, c.to, c.kind == doCut)
}

// do makes the call on a model.
func (m *model) do(c call) (Letter, api.Errno) {
	switch c.kind {
	case doSend:
		return Letter{}, m.send(Letter{From: c.from, To: c.to, S: c.s})
	case doCut, doMend:
		return Letter{}, m.setCut(link{c.from, c.to}, c.kind == doCut)
	}
	if c.i < 0 || c.i > len(m.waits)-1 {
		return Letter{}, api.ErrRange
	}
	l := m.all[m.waits[c.i]]
	if c.kind == doTake {
		m.taken++
		m.waits = slices.Concat(m.waits[:c.i], m.waits[c.i+1:])
		return l, api.OK
	}
	if len(m.waits) == 96 {
		return Letter{}, api.ErrFull
	}
	m.doubled++
	m.add(l)
	return Letter{}, api.OK
}

// add lets a letter be the last one in transit.
func (m *model) add(l Letter) {
	m.waits = append(m.waits, len(m.all))
	m.all = append(m.all, l)
}

// send is what Send makes of a model.
func (m *model) send(l Letter) api.Errno {
	switch {
	case !m.leads(l.From, l.To):
		return api.ErrRange
	case len(l.S) > 8192:
		return api.ErrLong
	case m.cut[link{l.From, l.To}]:
		m.refused++
		return api.ErrDown
	case len(m.waits) == 96:
		m.refused++
		return api.ErrFull
	}
	m.sent++
	m.add(l)
	return api.OK
}

// setCut is what Cut makes of a model.
func (m *model) setCut(k link, out bool) api.Errno {
	if !m.leads(k.from, k.to) {
		return api.ErrRange
	}
	m.cut[k] = out
	if !out {
		return api.OK
	}
	var rest []int
	for _, i := range m.waits {
		if (link{m.all[i].From, m.all[i].To}) == k {
			m.cutOff++
		} else {
			rest = append(rest, i)
		}
	}
	m.waits = rest
	return api.OK
}

// same holds all that a network tells against a model, for all ends and for numbers that are none.
func same(t *testing.T, what string, w *Wan, m *model) {
	t.Helper()
	if n := w.Waits(); n != len(m.waits) {
		t.Fatalf("%s: Waits = %d; want %d", what, n, len(m.waits))
	}
	for i := -1; i <= len(m.waits); i++ {
		want, e := Letter{}, api.ErrRange
		if 0 <= i && i < len(m.waits) {
			want, e = m.all[m.waits[i]], api.OK
		}
		if l, x := w.At(i); l != want || x != e {
			t.Fatalf("%s: At(%d) = %s, %d; want %s, %d", what, i, shown(l), x, shown(want), e)
		}
	}
	for from := -1; from <= m.ends; from++ {
		for to := -1; to <= m.ends; to++ {
			if got, want := w.Out(from, to), m.cut[link{from, to}]; got != want {
				t.Fatalf("%s: Out(%d, %d) = %v; want %v", what, from, to, got, want)
			}
		}
	}
	if n, want := w.Lost(), m.refused+m.cutOff; n != want {
		t.Fatalf("%s: Lost = %d; want %d", what, n, want)
	}
}

// shown is a letter as a failed test tells it.
func shown(l Letter) string {
	return fmt.Sprintf("{%d %d %q: %d bytes}", l.From, l.To, l.S[:min(len(l.S), 20)], len(l.S))
}

// step makes a call on a network and on a model, and holds what they answer against each other.
func step(t *testing.T, w *Wan, m *model, c call) {
	t.Helper()
	l, e := c.on(w)
	want, x := m.do(c)
	if l != want || e != x {
		t.Fatalf("%v = %s, %d; want %s, %d", c, shown(l), e, shown(want), x)
	}
}

// both makes the calls on a network and on a model, one by one, and holds what they answer and all that the network then tells against each other.
func both(t *testing.T, w *Wan, m *model, calls ...call) {
	t.Helper()
	for _, c := range calls {
		step(t, w, m, c)
		same(t, c.String(), w, m)
	}
}

// Promises 16.1 to 16.4: all short sequences of calls, held against the definitions.
func TestAllShort(t *testing.T) {
	calls := []call{send(0, 1, "a"), send(0, 1, "b"), send(1, 0, "c"), take(0), take(1), double(0), double(1),
		cut(0, 1), mend(0, 1), cut(1, 0), mend(1, 0)}
	const depth = 5
	total := 1
	for range depth {
		total *= len(calls)
	}
	for x := range total {
		w, m := made(t, 2), newModel(2)
		for range depth {
			step(t, w, m, calls[x%len(calls)])
			x /= len(calls)
		}
		same(t, "the sequence", w, m)
		balanced(t, w, m)
	}
}

// anyCall is a call of any kind, most of which are not refused.
func anyCall(r *rand.Rand, ends, waits int) call {
	from, to := r.Intn(ends), r.Intn(ends)
	if r.Intn(20) == 0 {
		from, to = from-1, to+1
	}
	i := r.Intn(waits+1) - r.Intn(20)/19
	switch r.Intn(30) {
	case 0:
		return cut(from, to)
	case 1, 2:
		return mend(from, to)
	case 3, 4, 5, 6, 7, 8, 9, 10, 11, 12:
		return take(i)
	case 13, 14, 15, 16, 17:
		return double(i)
	}
	return send(from, to, filled(r.Intn(5)*r.Intn(2050)))
}

// Promises 16.1 to 16.4: long sequences of calls on one network, held against the definitions.
func TestLong(t *testing.T) {
	for seed := range int64(120) {
		r := rand.New(rand.NewSource(seed))
		n := 2 + int(seed%15)
		w, m := made(t, n), newModel(n)
		for range 200 {
			both(t, w, m, anyCall(r, n, w.Waits()))
		}
		balanced(t, w, m)
	}
}

// Promises 16.1 to 16.4: the same around 96 letters in transit.
func TestLongFull(t *testing.T) {
	for seed := range int64(40) {
		r := rand.New(rand.NewSource(seed))
		n := 2 + int(seed%15)
		w, m := made(t, n), newModel(n)
		for range 96 {
			both(t, w, m, send(0, 1, "x"))
		}
		for range 200 {
			c := anyCall(r, n, w.Waits())
			if c.kind == doCut && r.Intn(3) > 0 {
				c.kind = doMend
			}
			both(t, w, m, c)
		}
		balanced(t, w, m)
	}
}

// balanced tells whether the letters that were sent and doubled are those that were taken, lost by Cut, and in transit.
func balanced(t *testing.T, w *Wan, m *model) {
	t.Helper()
	byCut := w.Lost() - m.refused
	if in, out := m.sent+m.doubled, m.taken+byCut+w.Waits(); in != out {
		t.Fatalf("%d letters were sent and doubled; %d are taken, lost by Cut and in transit", in, out)
	}
}
