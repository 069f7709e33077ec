package hop

import (
	"fmt"
	"math"
	"math/rand"
	"slices"
	"strings"
	"testing"

	"watershed/api"
)

// put is an item that was Put once.
type put struct {
	n           int
	s           string
	acked, sent bool
}

// sendModel is a sender as the chapter defines it: all items that there ever were, and what counts as what.
type sendModel struct {
	epoch, first, window, wait int
	items                      []put
	ticks                      int
}

// waits is the items that are waiting.
func (m *sendModel) waits() []*put {
	var l []*put
	for i := range m.items {
		if !m.items[i].acked {
			l = append(l, &m.items[i])
		}
	}
	return l
}

// put is what Put makes of a model.
func (m *sendModel) put(s string) (int, api.Errno) {
	n := m.first + len(m.items) + 1
	switch {
	case len(s) > 6000:
		return 0, api.ErrLong
	case len(m.waits()) == 64, n == 1<<40+1:
		return 0, api.ErrFull
	}
	m.items = append(m.items, put{n: n, s: s})
	return n, api.OK
}

// acked is what Acked makes of a model.
func (m *sendModel) acked(epoch, n int) bool {
	l := m.waits()
	if epoch != m.epoch || len(l) == 0 || n < l[0].n || n > l[len(l)-1].n {
		return false
	}
	for _, x := range l {
		if x.n <= n {
			x.acked, x.sent = true, true
		}
	}
	m.ticks = 0
	return true
}

// tick is what Tick makes of a model.
func (m *sendModel) tick() {
	l := m.waits()
	if !slices.ContainsFunc(l, func(x *put) bool { return x.sent }) {
		return
	}
	m.ticks++
	if m.ticks < m.wait {
		return
	}
	for _, x := range l {
		x.sent = false
	}
	m.ticks = 0
}

// out is what Out makes of a model.
func (m *sendModel) out() []Item {
	var l []Item
	for i, x := range m.waits() {
		if i < m.window && !x.sent {
			l = append(l, Item{x.n, x.s})
			x.sent = true
		}
	}
	return l
}

// state is what State tells of a model.
func (m *sendModel) state() (int, int, int) {
	waits := len(m.waits())
	return m.first + len(m.items) - waits, m.first + len(m.items) + 1, waits
}

// sender is a new one.
func sender(t *testing.T, epoch, acked, window, wait int) *Sender {
	s, e := NewSender(epoch, acked, window, wait)
	if s == nil || e != api.OK {
		t.Helper()
		t.Fatalf("NewSender(%d, %d, %d, %d) = %v, %d", epoch, acked, window, wait, s, e)
	}
	return s
}

// step is a call that was made on a sender.
type step struct {
	name string
	args []int
}

// pair is a sender and its model, each call on which is made on both, and the calls that were made.
type pair struct {
	t    *testing.T
	s    *Sender
	m    *sendModel
	done []step
}

func newPair(t *testing.T, epoch, acked, window, wait int) *pair {
	m := &sendModel{epoch: epoch, first: acked, window: window, wait: wait}
	return &pair{t: t, s: sender(t, epoch, acked, window, wait), m: m}
}

// fail tells what a call answered, and what it should have.
func (p *pair) fail(got, want any) {
	p.t.Fatalf("a sender of window %d and wait %d: %v = %.200v; want %.200v", p.m.window, p.m.wait, p.done, got, want)
}

// did notes a call and holds what State then tells against the model.
func (p *pair) did(name string, args ...int) {
	p.done = append(p.done, step{name, args})
	a, n, w := p.s.State()
	if x, y, z := p.m.state(); a != x || n != y || w != z {
		p.fail([]int{a, n, w}, []int{x, y, z})
	}
}

func (p *pair) put(s string) {
	n, e := p.s.Put(s)
	x, y := p.m.put(s)
	p.did("Put", len(s))
	if n != x || e != y {
		p.fail([]int{n, int(e)}, []int{x, int(y)})
	}
}

func (p *pair) acked(epoch, n int) {
	got, want := p.s.Acked(epoch, n), p.m.acked(epoch, n)
	p.did("Acked", epoch, n)
	if got != want {
		p.fail(got, want)
	}
}

func (p *pair) tick() {
	p.s.Tick()
	p.m.tick()
	p.did("Tick")
}

func (p *pair) out() {
	got, want := p.s.Out(), p.m.out()
	p.did("Out")
	if !slices.Equal(got, want) {
		p.fail(numbers(got), numbers(want))
	}
}

// numbers are the numbers of items, and where the text is short, the text.
func numbers(l []Item) string {
	var out []string
	for _, x := range l {
		out = append(out, fmt.Sprint(x.N, x.S[:min(len(x.S), 8)]))
	}
	return strings.Join(out, " ")
}

// outs tests what Out answers: numbers, each with its text.
func outs(t *testing.T, s *Sender, want string) {
	t.Helper()
	if got := numbers(s.Out()); got != want {
		t.Errorf("Out = %q; want %q", got, want)
	}
}

// state tests what State answers.
func state(t *testing.T, s *Sender, acked, next, waits int) {
	t.Helper()
	if a, n, w := s.State(); a != acked || n != next || w != waits {
		t.Errorf("State = %d, %d, %d; want %d, %d, %d", a, n, w, acked, next, waits)
	}
}

// puts adds items, each with a text of its own, the number of which must be the next one.
func puts(t *testing.T, s *Sender, count int) {
	t.Helper()
	for range count {
		_, next, _ := s.State()
		if n, e := s.Put(textOf(next)); n != next || e != api.OK {
			t.Fatalf("Put = %d, %d; want %d", n, e, next)
		}
	}
}

// textOf is the text that the tests give to the item of a number.
func textOf(n int) string { return "=" + fmt.Sprint(n) }

// items is numbers from one to another with their texts, as outs tells them.
func items(from, to int) string {
	var l []Item
	for n := from; n <= to; n++ {
		l = append(l, Item{n, textOf(n)})
	}
	return numbers(l)
}

// Promise 17.2: the chapter's examples, in one sequence.
func TestSenderExample(t *testing.T) {
	s := sender(t, 1, 0, 2, 2)
	for i, x := range []string{"a", "b", "c"} {
		if n, e := s.Put(x); n != i+1 || e != api.OK {
			t.Errorf("Put(%s) = %d, %d", x, n, e)
		}
	}
	outs(t, s, "1a 2b")
	if !s.Acked(1, 1) {
		t.Error("Acked(1, 1) = false")
	}
	for _, x := range [][2]int{{1, 1}, {2, 2}, {1, 9}} {
		if s.Acked(x[0], x[1]) {
			t.Errorf("Acked(%d, %d) = true", x[0], x[1])
		}
	}
	outs(t, s, "3c")
	outs(t, s, "")
	s.Tick()
	outs(t, s, "")
	s.Tick()
	outs(t, s, "2b 3c")
	state(t, s, 1, 4, 2)
}

// Promise 17.2: a new sender has nothing, and its next item has the number behind the acknowledged ones.
func TestNewSender(t *testing.T) {
	for _, acked := range []int{0, 1, 77, 1 << 32, 1<<40 - 1, 1 << 40} {
		s := sender(t, 3, acked, 4, 5)
		state(t, s, acked, acked+1, 0)
		outs(t, s, "")
		for range 20 {
			s.Tick()
		}
		if s.Acked(3, acked) || s.Acked(3, acked+1) || s.Acked(3, 0) {
			t.Error("Acked of nothing = true")
		}
		state(t, s, acked, acked+1, 0)
		if acked < 1<<40 {
			puts(t, s, 1)
			outs(t, s, items(acked+1, acked+1))
		}
	}
}

// Promise 17.2: NewSender is ErrRange where any number is out of its range, and has no sender then.
func TestNewSenderRange(t *testing.T) {
	all := []int{math.MinInt, -1 << 40, -1, 0, 1, 2, 15, 16, 17, 99, 100, 101, 1<<30 - 1, 1 << 30, 1<<30 + 1, 1<<32 + 1, 1<<40 - 1, 1 << 40, 1<<40 + 1, math.MaxInt}
	for _, epoch := range all {
		for _, acked := range all {
			for _, window := range all {
				for _, wait := range all {
					good := epoch > 0 && epoch <= 1<<30 && acked >= 0 && acked <= 1<<40 && window > 0 && window <= 16 && wait > 0 && wait <= 100
					s, e := NewSender(epoch, acked, window, wait)
					if good && (s == nil || e != api.OK) || !good && (s != nil || e != api.ErrRange) {
						t.Fatalf("NewSender(%d, %d, %d, %d) = %v, %d", epoch, acked, window, wait, s, e)
					}
				}
			}
		}
	}
}

// Promise 17.2: a text of 6000 bytes is an item's, one of 6001 is ErrLong, with 64 that wait and at the last number too; what is refused changes nothing.
func TestPutErrors(t *testing.T) {
	refused := func(s *Sender, text string, want api.Errno) {
		t.Helper()
		a, next, w := s.State()
		if n, e := s.Put(text); n != 0 || e != want {
			t.Errorf("Put(%d bytes) = %d, %d; want %d", len(text), n, e, want)
		}
		state(t, s, a, next, w)
	}
	s := sender(t, 1, 0, 16, 3)
	refused(s, filled(6001), api.ErrLong)
	refused(s, filled(1<<16), api.ErrLong)
	if n, e := s.Put(filled(6000)); n != 1 || e != api.OK {
		t.Errorf("Put of 6000 bytes = %d, %d", n, e)
	}
	if l := s.Out(); len(l) != 1 || l[0] != (Item{1, filled(6000)}) {
		t.Errorf("Out = %q", numbers(l))
	}
	if n, e := s.Put(""); n != 2 || e != api.OK {
		t.Errorf("Put of no bytes = %d, %d", n, e)
	}
	outs(t, s, "2")
	puts(t, s, 62)
	for range 3 {
		refused(s, "x", api.ErrFull)
		refused(s, filled(6001), api.ErrLong)
	}
	outs(t, s, items(3, 16))
	s.Acked(1, 2)
	puts(t, s, 2)
	refused(s, "", api.ErrFull)
	outs(t, s, items(17, 18))
}

// Promise 17.2: 2^40 is the last number, however many items wait.
func TestLastNumber(t *testing.T) {
	const last = 1 << 40
	for _, before := range []int{0, 1, 2, 10, 63, 64} {
		s := sender(t, 1, last-before, 16, 2)
		puts(t, s, before)
		if n, e := s.Put("x"); n != 0 || e != api.ErrFull {
			t.Errorf("Put behind the last number = %d, %d", n, e)
		}
		if n, e := s.Put(filled(6001)); n != 0 || e != api.ErrLong {
			t.Errorf("Put of 6001 bytes behind the last number = %d, %d", n, e)
		}
		state(t, s, last-before, last+1, before)
		outs(t, s, items(last-before+1, min(last, last-before+16)))
		if s.Acked(1, last+1) {
			t.Error("Acked(1, 2^40 + 1) = true")
		}
		if got := s.Acked(1, last); got != (before > 0) {
			t.Errorf("Acked(1, 2^40) = %v", got)
		}
		state(t, s, last, last+1, 0)
		if n, e := s.Put("x"); n != 0 || e != api.ErrFull {
			t.Errorf("Put behind the last number, none waiting = %d, %d", n, e)
		}
	}
}

// Promise 17.2: Out sends what the window has, in order, each once, and what comes into it by an acknowledgement or by Put.
func TestOutWindow(t *testing.T) {
	for window := 1; window <= 16; window++ {
		s := sender(t, 9, 100, window, 100)
		puts(t, s, 64)
		outs(t, s, items(101, 100+window))
		outs(t, s, "")
		for n := 101; n <= 164; n++ {
			if !s.Acked(9, n) {
				t.Fatalf("Acked(9, %d) = false", n)
			}
			want := ""
			if n+window <= 164 {
				want = items(n+window, n+window)
			}
			outs(t, s, want)
		}
		for n := 165; n <= 164+2*window; n++ {
			puts(t, s, 1)
			want := ""
			if n <= 164+window {
				want = items(n, n)
			}
			outs(t, s, want)
		}
	}
}

// Promise 17.2: an acknowledgement of several lets as many come into the window; those sent already are not sent again.
func TestAckedMany(t *testing.T) {
	s := sender(t, 1, 0, 5, 9)
	puts(t, s, 20)
	outs(t, s, items(1, 5))
	if !s.Acked(1, 3) {
		t.Error("Acked(1, 3) = false")
	}
	state(t, s, 3, 21, 17)
	outs(t, s, items(6, 8))
	if !s.Acked(1, 8) {
		t.Error("Acked(1, 8) = false")
	}
	outs(t, s, items(9, 13))
	if !s.Acked(1, 20) {
		t.Error("Acked(1, 20) = false")
	}
	state(t, s, 20, 21, 0)
	outs(t, s, "")
}

// Promise 17.2: items that were not sent may be acknowledged, too; they then count as sent, and those behind them do not.
func TestAckedUnsent(t *testing.T) {
	s := sender(t, 4, 0, 2, 1)
	puts(t, s, 6)
	if !s.Acked(4, 3) {
		t.Error("Acked(4, 3) with nothing sent = false")
	}
	s.Tick()
	outs(t, s, items(4, 5))
	if !s.Acked(4, 4) || !s.Acked(4, 6) {
		t.Error("Acked beyond what was sent = false")
	}
	s.Tick()
	puts(t, s, 1)
	outs(t, s, items(7, 7))
	outs(t, s, "")
}

// Promise 17.2: an acknowledgement of another epoch, of nothing new, or of what there is not, is false and has no effect, on the tick counter either.
func TestAckedWrong(t *testing.T) {
	for _, x := range [][2]int{{6, 12}, {8, 12}, {0, 12}, {-7, 12}, {7 + 1<<32, 12}, {math.MinInt, 12}, {math.MaxInt, 12},
		{7, 11}, {7, 10}, {7, 0}, {7, -1}, {7, -12}, {7, math.MinInt}, {7, 15}, {7, 16}, {7, 1 << 40}, {7, 12 + 1<<32}, {7, math.MaxInt}, {6, 11}, {8, 15}} {
		s := sender(t, 7, 10, 3, 3)
		puts(t, s, 4)
		outs(t, s, items(11, 13))
		if !s.Acked(7, 11) {
			t.Error("Acked(7, 11) = false")
		}
		s.Tick()
		s.Tick()
		if s.Acked(x[0], x[1]) {
			t.Errorf("Acked(%d, %d) = true", x[0], x[1])
		}
		state(t, s, 11, 15, 3)
		outs(t, s, items(14, 14))
		s.Tick()
		outs(t, s, items(12, 14))
	}
}

// Promise 17.2: all that is not acknowledged is sent again after as many ticks as wait says, again and again, and not before.
func TestTick(t *testing.T) {
	for wait := 1; wait <= 100; wait++ {
		s := sender(t, 1, 0, 3, wait)
		puts(t, s, 5)
		for range 3 {
			outs(t, s, items(1, 3))
			for i := range wait {
				if i > 0 {
					outs(t, s, "")
				}
				s.Tick()
			}
		}
		outs(t, s, items(1, 3))
	}
}

// Promise 17.2: ticks count only while something that counts as sent is not acknowledged; an acknowledgement lets them begin anew.
func TestTickCounter(t *testing.T) {
	s := sender(t, 1, 0, 2, 3)
	idle := func() {
		for range 7 {
			s.Tick()
		}
	}
	idle()
	puts(t, s, 4)
	idle()
	outs(t, s, items(1, 2))
	s.Tick()
	s.Tick()
	outs(t, s, "")
	if !s.Acked(1, 1) {
		t.Error("Acked(1, 1) = false")
	}
	s.Tick()
	s.Tick()
	outs(t, s, items(3, 3))
	s.Tick()
	outs(t, s, items(2, 3))
	if !s.Acked(1, 3) {
		t.Error("Acked(1, 3) = false")
	}
	idle()
	s.Tick()
	outs(t, s, items(4, 4))
	s.Tick()
	s.Tick()
	outs(t, s, "")
	s.Tick()
	// What counts as not sent is not waited for either: the ticks begin when it is sent again.
	s.Tick()
	s.Tick()
	outs(t, s, items(4, 4))
	s.Tick()
	outs(t, s, "")
	s.Tick()
	s.Tick()
	outs(t, s, items(4, 4))
}

// Promise 17.2: what was sent and then counts as not sent comes ahead of what was never sent, and is acknowledged all the same.
func TestAgain(t *testing.T) {
	s := sender(t, 2, 0, 4, 1)
	puts(t, s, 2)
	outs(t, s, items(1, 2))
	s.Tick()
	puts(t, s, 4)
	outs(t, s, items(1, 4))
	s.Tick()
	if !s.Acked(2, 2) {
		t.Error("Acked(2, 2) = false")
	}
	outs(t, s, items(3, 6))
}

// Promise 17.2, rule R4: what Out answered stays as it was, and what is done with it reaches neither the sender nor what Out answers later.
func TestOutApart(t *testing.T) {
	s := sender(t, 1, 0, 3, 1)
	puts(t, s, 8)
	first := s.Out()
	kept := slices.Clone(first)
	s.Tick()
	second := s.Out()
	s.Acked(1, 2)
	puts(t, s, 2)
	s.Out()
	s.Tick()
	if !slices.Equal(first, kept) || !slices.Equal(second, kept) {
		t.Errorf("what Out answered is now %q and %q", numbers(first), numbers(second))
	}
	second[0] = Item{70, "x"}
	second = append(second, Item{71, "y"}, Item{72, "z"})
	for i := range first[:cap(first)] {
		first[:cap(first)][i] = Item{80, "w"}
	}
	if second[1] != kept[1] {
		t.Errorf("the second answer is now %q", numbers(second))
	}
	outs(t, s, items(3, 5))
	s.Acked(1, 5)
	outs(t, s, items(6, 8))
	s.Acked(1, 8)
	outs(t, s, items(9, 10))
}

// Promise 17.2: what is done with one sender does not reach another one.
func TestSendersApart(t *testing.T) {
	a, b := sender(t, 1, 0, 2, 2), sender(t, 1, 0, 2, 2)
	puts(t, a, 3)
	a.Out()
	a.Acked(1, 1)
	state(t, b, 0, 1, 0)
	puts(t, b, 1)
	outs(t, b, items(1, 1))
	state(t, a, 1, 4, 2)
}

// Promise 17.2: all short sequences of calls, held against the definitions.
func TestSenderShort(t *testing.T) {
	const depth, kinds = 6, 7
	for x := range power(kinds, depth) {
		for way := range 12 {
			p := newPair(t, 5, 0, 1+way%3, 1+way/3%2)
			for range way / 6 * 3 {
				p.put("x")
			}
			for k := range depth {
				p.any(x / power(kinds, k) % kinds)
			}
			p.out()
		}
	}
}

// power is a product of so many times the same.
func power(x, times int) int {
	out := 1
	for range times {
		out *= x
	}
	return out
}

// any makes one of seven calls.
func (p *pair) any(kind int) {
	a, next, _ := p.s.State()
	switch kind {
	case 0:
		p.put("y")
	case 1:
		p.out()
	case 2:
		p.tick()
	case 3:
		p.acked(p.m.epoch, a+1)
	case 4:
		p.acked(p.m.epoch, a+2)
	case 5:
		p.acked(p.m.epoch, next-1)
	case 6:
		p.acked(p.m.epoch+1, a+1)
	}
}

// Promise 17.2: long sequences of calls, with each window, many waits, and numbers around the last one, held against the definitions.
func TestSenderLong(t *testing.T) {
	for seed := range int64(300) {
		r := rand.New(rand.NewSource(seed))
		first := r.Intn(50)
		if r.Intn(3) == 0 {
			first = 1<<40 - r.Intn(150)
		}
		p := newPair(t, 1+r.Intn(1<<30), first, 1+r.Intn(16), 1+r.Intn(100)/(1+r.Intn(30)))
		often := 1 + r.Intn(8)
		for i := range 500 {
			switch r.Intn(10 + often) {
			case 0:
				p.acked(p.m.epoch+r.Intn(3)-1, first+i%70)
			case 1, 2:
				a, next, _ := p.s.State()
				p.acked(p.m.epoch, a-1+r.Intn(next-a+3))
			case 3, 4:
				p.out()
			case 5, 6, 7:
				p.tick()
			case 8:
				p.put(filled(5990 + r.Intn(13)))
			default:
				p.put(fmt.Sprint(i))
			}
			if len(p.done) > 12 {
				p.done = p.done[1:]
			}
		}
	}
}
