package wan

import (
	"fmt"
	"math"
	"math/rand"
	"slices"
	"strings"
	"testing"

	"watershed/api"
)

// made is a new network of so many ends.
func made(t *testing.T, n int) *Wan {
	t.Helper()
	w, e := New(n)
	if w == nil || e != api.OK {
		t.Fatalf("New(%d) = %v, %d", n, w, e)
	}
	return w
}

// ok makes calls on a network, none of which may be refused.
func ok(t *testing.T, w *Wan, calls ...call) {
	t.Helper()
	for _, c := range calls {
		if _, e := c.on(w); e != api.OK {
			t.Fatalf("%v = %d", c, e)
		}
	}
}

// refused makes a call on a network of n ends, which must be refused with an error, a zero result, and no effect but so many letters more that are lost.
func refused(t *testing.T, w *Wan, n int, c call, want api.Errno, lost int) {
	t.Helper()
	before, had := told(w, n), w.Lost()
	if l, e := c.on(w); l != (Letter{}) || e != want {
		t.Errorf("%v = %s, %d; want %d", c, shown(l), e, want)
	}
	if after := told(w, n); after != before {
		t.Errorf("%v, refused: %q; want %q", c, after, before)
	}
	if w.Lost() != had+lost {
		t.Errorf("%v, refused: Lost = %d; want %d", c, w.Lost(), had+lost)
	}
}

// told is what is in transit in a network of n ends, and which links of it are cut.
func told(w *Wan, n int) string {
	var b strings.Builder
	for i := range w.Waits() {
		l, e := w.At(i)
		fmt.Fprint(&b, shown(l), int(e), ";")
	}
	for from := range n {
		for to := range n {
			if w.Out(from, to) {
				fmt.Fprint(&b, from, ">", to, ";")
			}
		}
	}
	return b.String()
}

// texts are the bytes of all letters in transit, in order.
func texts(w *Wan) string {
	var l []string
	for i := range w.Waits() {
		x, _ := w.At(i)
		l = append(l, x.S)
	}
	return strings.Join(l, " ")
}

// filled is a text of so many bytes, which are not all the same.
func filled(n int) string { return strings.Repeat("0123456789abcdef", n/16+1)[:n] }

// notEnds are numbers that are no end of a network of n ends.
func notEnds(n int) []int {
	return []int{-1, -2, -n, -16, math.MinInt, n, n + 1, 2 * n, 16, 17, 1 << 32, 1<<32 + 1, math.MaxInt}
}

// full is a network of n ends with 96 letters in transit, all from 0 to 1.
func full(t *testing.T, n int) *Wan {
	t.Helper()
	w := made(t, n)
	for i := range 96 {
		ok(t, w, send(0, 1, fmt.Sprint("x", i)))
	}
	return w
}

// Promise 16.1: a network has from 2 to 16 ends.
func TestNewRange(t *testing.T) {
	for n := -40; n <= 40; n++ {
		w, e := New(n)
		if n >= 2 && n <= 16 {
			if w == nil || e != api.OK {
				t.Errorf("New(%d) = %v, %d", n, w, e)
			}
		} else if w != nil || e != api.ErrRange {
			t.Errorf("New(%d) = %v, %d; want ErrRange", n, w, e)
		}
	}
	for _, n := range []int{math.MinInt, math.MaxInt, 1 << 32, 1<<32 + 2, -1 << 32, 1 << 8, 1<<8 + 2} {
		if w, e := New(n); w != nil || e != api.ErrRange {
			t.Errorf("New(%d) = %v, %d; want ErrRange", n, w, e)
		}
	}
}

// Promise 16.1: in a new network nothing is in transit or lost, no link is cut, and each end reaches each other one.
func TestNew(t *testing.T) {
	if Room != 96 {
		t.Errorf("Room = %d", Room)
	}
	for n := 2; n <= 16; n++ {
		for from := range n {
			w, m := made(t, n), newModel(n)
			same(t, fmt.Sprintf("New(%d)", n), w, m)
			for to := range n {
				both(t, w, m, send(from, to, fmt.Sprint(from, " ", to)))
			}
			if w.Waits() != n-1 {
				t.Errorf("%d ends: %d letters from %d; want %d", n, w.Waits(), from, n-1)
			}
		}
	}
}

// Promise 16.1: what is done with one network does not reach another one.
func TestNewApart(t *testing.T) {
	w, other := made(t, 3), made(t, 3)
	ok(t, w, send(0, 1, "a"), cut(1, 2), send(0, 1, "b"), cut(0, 1), mend(0, 1), send(0, 1, "c"))
	same(t, "the other network", other, newModel(3))
}

// Promise 16.1: the chapter's example of Send.
func TestSendExample(t *testing.T) {
	w := made(t, 2)
	ok(t, w, cut(0, 1))
	if e := w.Send(Letter{From: 0, To: 1, S: "a"}); e != api.ErrDown {
		t.Errorf("Send from 0 to 1 = %d", e)
	}
	if e := w.Send(Letter{From: 1, To: 0, S: "b"}); e != api.OK {
		t.Errorf("Send from 1 to 0 = %d", e)
	}
	if got := texts(w); got != "b" || w.Lost() != 1 {
		t.Errorf("in transit: %q, Lost = %d", got, w.Lost())
	}
}

// Promise 16.1: letters are behind those sent earlier, whatever links they are on and whatever bytes they have.
func TestSendOrder(t *testing.T) {
	w, m := made(t, 4), newModel(4)
	both(t, w, m, send(0, 1, "a"), send(3, 2, ""), send(1, 0, "\x00\xff\n"), send(0, 1, "a"), send(2, 0, "é"), send(0, 1, ""))
	l, e := w.At(2)
	if (l != Letter{From: 1, To: 0, S: "\x00\xff\n"}) || e != api.OK {
		t.Errorf("At(2) = %v, %d", l, e)
	}
}

// Promise 16.1: numbers that are no ends, and an end to itself, are ErrRange, with a text that is too long too, and where there is no room; nothing is lost.
func TestSendRange(t *testing.T) {
	for n := 2; n <= 16; n++ {
		for _, w := range []*Wan{made(t, n), full(t, n)} {
			for _, s := range []string{"", "x", filled(8193)} {
				for end := range n {
					refused(t, w, n, send(end, end, s), api.ErrRange, 0)
				}
				for _, x := range notEnds(n) {
					if x >= 0 && x < n {
						continue
					}
					refused(t, w, n, send(x, 0, s), api.ErrRange, 0)
					refused(t, w, n, send(n-1, x, s), api.ErrRange, 0)
					refused(t, w, n, send(x, x, s), api.ErrRange, 0)
					refused(t, w, n, send(x, -x, s), api.ErrRange, 0)
				}
			}
		}
	}
}

// Promise 16.1: a letter has at most 8192 bytes.
func TestSendLong(t *testing.T) {
	w, m := made(t, 2), newModel(2)
	for _, n := range []int{0, 1, 4096, 8191, 8192} {
		if e := w.Send(Letter{From: 0, To: 1, S: filled(n)}); e != api.OK {
			t.Errorf("Send of %d bytes = %d", n, e)
		}
		m.do(send(0, 1, filled(n)))
		same(t, fmt.Sprintf("Send of %d bytes", n), w, m)
	}
	for _, n := range []int{8193, 8194, 16384, 1 << 16, 1<<16 + 1, 1 << 20} {
		refused(t, w, 2, send(0, 1, filled(n)), api.ErrLong, 0)
		refused(t, w, 2, send(1, 0, strings.Repeat("é", n/2+1)), api.ErrLong, 0)
	}
	// Bytes are counted, not characters.
	refused(t, w, 2, send(0, 1, strings.Repeat("é", 4097)), api.ErrLong, 0)
	ok(t, w, send(0, 1, strings.Repeat("é", 4096)))
}

// Promises 16.1, 16.3: what is too long is ErrLong also on a link that is cut and where there is no room, and is not lost.
func TestSendLongFirst(t *testing.T) {
	w := full(t, 3)
	ok(t, w, cut(1, 2))
	refused(t, w, 3, send(0, 1, filled(8193)), api.ErrLong, 0)
	refused(t, w, 3, send(1, 2, filled(8193)), api.ErrLong, 0)
	ok(t, w, cut(0, 1))
	refused(t, w, 3, send(0, 1, filled(8193)), api.ErrLong, 0)
}

// Promises 16.1, 16.3: on a link that is cut Send is ErrDown, where there is no room too, and each such letter is lost.
func TestSendDown(t *testing.T) {
	w := full(t, 3)
	ok(t, w, cut(1, 2))
	for range 3 {
		refused(t, w, 3, send(1, 2, filled(8192)), api.ErrDown, 1)
		refused(t, w, 3, send(1, 2, ""), api.ErrDown, 1)
		refused(t, w, 3, send(2, 1, ""), api.ErrFull, 1)
	}
	ok(t, w, take(0))
	refused(t, w, 3, send(1, 2, "x"), api.ErrDown, 1)
	ok(t, w, mend(1, 2), send(1, 2, "x"))
	refused(t, w, 3, send(1, 2, "x"), api.ErrFull, 1)
}

// Promises 16.1, 16.3: 96 letters may be in transit, on all links together; one more is ErrFull, and lost.
func TestSendFull(t *testing.T) {
	for n := 2; n <= 16; n++ {
		w, m := made(t, n), newModel(n)
		for i := range 96 {
			from := i % n
			if e := w.Send(Letter{From: from, To: (from + 1 + i%(n-1)) % n, S: "x"}); e != api.OK {
				t.Fatalf("%d ends: letter %d = %d", n, i, e)
			}
			m.do(send(from, (from+1+i%(n-1))%n, "x"))
		}
		same(t, "96 letters", w, m)
		for from := range n {
			for to := range n {
				if from != to {
					refused(t, w, n, send(from, to, "y"), api.ErrFull, 1)
				}
			}
		}
		ok(t, w, take(50), send(0, 1, "z"))
		refused(t, w, n, send(0, 1, ""), api.ErrFull, 1)
		if l, _ := w.At(95); l.S != "z" || w.Lost() != n*(n-1)+1 {
			t.Errorf("At(95) = %v, Lost = %d", l, w.Lost())
		}
	}
}

// Promises 16.1, 16.3: letters that Cut loses leave their room to others.
func TestRoomAgain(t *testing.T) {
	w, m := made(t, 3), newModel(3)
	for i := range 96 {
		both(t, w, m, send(0, 1+i%2, "x"))
	}
	both(t, w, m, send(1, 0, "y"), cut(0, 2))
	for range 48 {
		both(t, w, m, send(1, 0, "y"))
	}
	both(t, w, m, send(1, 0, "z"), double(0), send(0, 2, "z"))
	if w.Waits() != 96 || w.Lost() != 51 {
		t.Errorf("Waits = %d, Lost = %d", w.Waits(), w.Lost())
	}
}

// Promise 16.2: a letter is taken from each place of lists of each length, and the others stay in order.
func TestTake(t *testing.T) {
	for _, n := range []int{1, 2, 3, 7, 95, 96} {
		for i := range n {
			w := made(t, 2)
			var want []string
			for k := range n {
				ok(t, w, send(k%2, 1-k%2, fmt.Sprint(k)))
				want = append(want, fmt.Sprint(k))
			}
			if l, e := w.Take(i); (l != Letter{From: i % 2, To: 1 - i%2, S: fmt.Sprint(i)}) || e != api.OK {
				t.Fatalf("Take(%d) of %d = %v, %d", i, n, l, e)
			}
			if got := texts(w); got != strings.Join(slices.Delete(want, i, i+1), " ") || w.Waits() != n-1 {
				t.Fatalf("Take(%d) of %d: in transit is %q", i, n, got)
			}
			if w.Lost() != 0 {
				t.Fatalf("Take(%d) of %d: Lost = %d", i, n, w.Lost())
			}
		}
	}
}

// Promise 16.2: the chapter's example of Take.
func TestTakeExample(t *testing.T) {
	w := made(t, 3)
	ok(t, w, send(0, 1, "a"), send(2, 1, "b"))
	if l, e := w.Take(1); (l != Letter{From: 2, To: 1, S: "b"}) || e != api.OK {
		t.Errorf("Take(1) = %v, %d", l, e)
	}
	if l, e := w.At(0); (l != Letter{From: 0, To: 1, S: "a"}) || e != api.OK || w.Waits() != 1 {
		t.Errorf("At(0) = %v, %d, Waits = %d", l, e, w.Waits())
	}
}

// Promise 16.2: what is at no place is ErrRange, where there is no room too, and nothing is lost.
func TestWrongPlaces(t *testing.T) {
	for _, n := range []int{0, 1, 2, 50, 95, 96} {
		w := made(t, 2)
		for range n {
			ok(t, w, send(1, 0, "x"))
		}
		for _, i := range []int{-1, -2, -n - 1, math.MinInt, n, n + 1, 96, 97, math.MaxInt, 1 << 32, 1<<32 + 1} {
			if i >= 0 && i < n {
				continue
			}
			if l, e := w.At(i); l != (Letter{}) || e != api.ErrRange {
				t.Errorf("%d letters: At(%d) = %v, %d", n, i, l, e)
			}
			refused(t, w, 2, take(i), api.ErrRange, 0)
			refused(t, w, 2, double(i), api.ErrRange, 0)
		}
	}
}

// Promise 16.2: At leaves a letter where it is.
func TestAt(t *testing.T) {
	w, m := made(t, 2), newModel(2)
	both(t, w, m, send(0, 1, "a"), send(1, 0, "b"))
	for range 3 {
		for i, want := range []Letter{{0, 1, "a"}, {1, 0, "b"}} {
			if l, e := w.At(i); l != want || e != api.OK {
				t.Errorf("At(%d) = %v, %d; want %v", i, l, e, want)
			}
		}
	}
	same(t, "At", w, m)
}

// Promise 16.2: the chapter's example of Double.
func TestDoubleExample(t *testing.T) {
	w := made(t, 2)
	ok(t, w, send(0, 1, "a"), send(1, 0, "b"), double(0))
	if w.Waits() != 3 || texts(w) != "a b a" {
		t.Errorf("Waits = %d: %q", w.Waits(), texts(w))
	}
}

// Promise 16.2: the copy of a letter at each place is the last one, is on the same link, and may be doubled, taken and lost on its own.
func TestDouble(t *testing.T) {
	for i := range 4 {
		w, m := made(t, 3), newModel(3)
		both(t, w, m, send(0, 1, "a"), send(1, 2, "b"), send(2, 0, "c"), send(0, 1, "d"), double(i))
		l, _ := w.At(i)
		if c, e := w.At(4); c != l || e != api.OK {
			t.Errorf("Double(%d): At(4) = %v, %d; want %v", i, c, e, l)
		}
		both(t, w, m, double(4), take(i), double(4), take(3), take(3), take(3))
		if got := w.Waits(); got != 3 {
			t.Errorf("Double(%d): Waits = %d", i, got)
		}
		both(t, w, m, double(0), cut(0, 1), double(0), cut(1, 2), double(0), cut(2, 0))
	}
}

// Promises 16.2, 16.3: Double with 96 letters in transit is ErrFull, and nothing is lost by it.
func TestDoubleFull(t *testing.T) {
	w := made(t, 2)
	ok(t, w, send(0, 1, "a"))
	for range 95 {
		ok(t, w, double(0))
	}
	for _, i := range []int{0, 50, 95} {
		refused(t, w, 2, double(i), api.ErrFull, 0)
	}
	ok(t, w, take(0), double(94))
	refused(t, w, 2, double(0), api.ErrFull, 0)
	if w.Waits() != 96 || w.Lost() != 0 {
		t.Errorf("Waits = %d, Lost = %d", w.Waits(), w.Lost())
	}
}

// Promise 16.3: the chapter's examples of Cut.
func TestCutExample(t *testing.T) {
	w := made(t, 2)
	ok(t, w, send(0, 1, "a"), send(0, 1, "b"), cut(0, 1))
	if w.Waits() != 0 || w.Lost() != 2 {
		t.Errorf("Waits = %d, Lost = %d", w.Waits(), w.Lost())
	}
	w = made(t, 2)
	ok(t, w, send(0, 1, "a"), double(0), cut(0, 1))
	if w.Waits() != 0 || w.Lost() != 2 {
		t.Errorf("after Double: Waits = %d, Lost = %d", w.Waits(), w.Lost())
	}
}

// Promise 16.3: Cut loses the letters of its link alone, from the one end to the other one alone, and those of the others stay in order.
func TestCut(t *testing.T) {
	const n = 4
	for from := range n {
		for to := range n {
			if from == to {
				continue
			}
			w, m := made(t, n), newModel(n)
			var want []string
			for i := range 60 {
				// Each link has several, between those of others.
				a, b := i%n, (i%n+1+i/n%3)%n
				s := fmt.Sprint(i)
				both(t, w, m, send(a, b, s))
				if a != from || b != to {
					want = append(want, s)
				}
			}
			both(t, w, m, cut(from, to))
			if got := texts(w); got != strings.Join(want, " ") || w.Lost() != 5 {
				t.Errorf("Cut(%d, %d): in transit is %q, Lost = %d; want %q", from, to, got, w.Lost(), want)
			}
			for a := range n {
				for b := range n {
					if got := w.Out(a, b); got != (a == from && b == to) {
						t.Errorf("Cut(%d, %d): Out(%d, %d) = %v", from, to, a, b, got)
					}
				}
			}
			both(t, w, m, send(from, to, "x"), send(to, from, "y"))
		}
	}
}

// Promise 16.3: a link that is cut again loses nothing more, and one restored lets letters pass, without those that were lost.
func TestMend(t *testing.T) {
	w, m := made(t, 2), newModel(2)
	both(t, w, m, send(0, 1, "a"), send(1, 0, "b"), cut(0, 1), cut(0, 1), send(0, 1, "c"))
	if w.Lost() != 2 || !w.Out(0, 1) {
		t.Errorf("cut twice: Lost = %d, Out = %v", w.Lost(), w.Out(0, 1))
	}
	both(t, w, m, mend(0, 1))
	if w.Lost() != 2 || w.Out(0, 1) || texts(w) != "b" {
		t.Errorf("restored: Lost = %d, Out = %v: %q", w.Lost(), w.Out(0, 1), texts(w))
	}
	both(t, w, m, send(0, 1, "d"), mend(0, 1), mend(1, 0))
	if w.Lost() != 2 || texts(w) != "b d" {
		t.Errorf("restored again: Lost = %d: %q", w.Lost(), texts(w))
	}
	both(t, w, m, cut(0, 1), send(0, 1, "e"), mend(0, 1), send(0, 1, "f"), cut(1, 0))
	if w.Lost() != 5 || texts(w) != "f" || w.Out(0, 1) || !w.Out(1, 0) {
		t.Errorf("cut again: Lost = %d: %q", w.Lost(), texts(w))
	}
}

// Promise 16.3: a link is restored on its own, the other ones stay cut.
func TestMendOne(t *testing.T) {
	const n = 16
	w, m := made(t, n), newModel(n)
	for from := range n {
		for to := range n {
			step(t, w, m, cut(from, to))
		}
	}
	same(t, "all cut", w, m)
	for from := range n {
		for to := range n {
			both(t, w, m, mend(from, to), send(from, to, "x"))
			if w.Out(from, to) {
				t.Errorf("Out(%d, %d) after it was restored", from, to)
			}
			both(t, w, m, cut(from, to))
		}
	}
	if w.Lost() != n*(n-1) {
		t.Errorf("Lost = %d; want %d", w.Lost(), n*(n-1))
	}
}

// Promise 16.3: Cut of what is no link is ErrRange, whether it would cut or restore, and Out of it is false.
func TestCutRange(t *testing.T) {
	for n := 2; n <= 16; n++ {
		w := made(t, n)
		ok(t, w, send(0, 1, "x"), cut(1, 0))
		for end := range n {
			noLink(t, w, n, end, end)
		}
		for _, x := range notEnds(n) {
			if x >= 0 && x < n {
				continue
			}
			noLink(t, w, n, x, 0)
			noLink(t, w, n, 1, x)
			noLink(t, w, n, x, x)
			noLink(t, w, n, x, -x)
		}
	}
}

// noLink tests that no link leads from one number to another, and that none does after Cut either.
func noLink(t *testing.T, w *Wan, n, from, to int) {
	t.Helper()
	refused(t, w, n, cut(from, to), api.ErrRange, 0)
	if w.Out(from, to) {
		t.Errorf("%d ends: Out(%d, %d) = true", n, from, to)
	}
	refused(t, w, n, mend(from, to), api.ErrRange, 0)
	if w.Out(from, to) {
		t.Errorf("%d ends: Out(%d, %d) = true", n, from, to)
	}
}

// Promise 16.3: Lost counts the letters that were refused with ErrDown or ErrFull or lost by Cut, and nothing else.
func TestLost(t *testing.T) {
	w := made(t, 3)
	at := func(want int) {
		t.Helper()
		if n := w.Lost(); n != want {
			t.Errorf("Lost = %d; want %d", n, want)
		}
	}
	at(0)
	ok(t, w, send(0, 1, "a"), double(0), take(0), take(0), cut(0, 1))
	at(0)
	refused(t, w, 3, send(0, 1, "a"), api.ErrDown, 1)
	at(1)
	refused(t, w, 3, send(0, 0, "a"), api.ErrRange, 0)
	refused(t, w, 3, send(1, 2, filled(8193)), api.ErrLong, 0)
	refused(t, w, 3, take(0), api.ErrRange, 0)
	refused(t, w, 3, double(0), api.ErrRange, 0)
	refused(t, w, 3, cut(0, 3), api.ErrRange, 0)
	at(1)
	for range 96 {
		ok(t, w, send(1, 2, "b"))
	}
	refused(t, w, 3, send(1, 2, "b"), api.ErrFull, 1)
	refused(t, w, 3, double(0), api.ErrFull, 0)
	at(2)
	ok(t, w, mend(0, 1), take(95), send(0, 1, "c"), cut(1, 2))
	at(97)
	ok(t, w, cut(0, 1))
	at(98)
	ok(t, w, mend(0, 1), mend(1, 2), send(0, 1, "d"), take(0))
	at(98)
}

// Promise 16.2, rule R4: what was taken or looked at stays as it was, whatever is then done with the network.
func TestTakenStays(t *testing.T) {
	w := made(t, 2)
	ok(t, w, send(0, 1, "a"), send(1, 0, "b"), double(0))
	seen, _ := w.At(1)
	got, _ := w.Take(0)
	ok(t, w, send(1, 0, "c"), take(0), take(0), cut(1, 0), send(0, 1, "d"), double(0))
	if (seen != Letter{1, 0, "b"}) || (got != Letter{0, 1, "a"}) {
		t.Errorf("what was seen and taken is now %v and %v", seen, got)
	}
}

// Promise 16.4: each letter that is taken was sent by its end to its end, at most once more than it was doubled; and none is there that is not accounted for.
func TestTakenWasSent(t *testing.T) {
	for seed := range int64(100) {
		r := rand.New(rand.NewSource(seed))
		n := 2 + r.Intn(15)
		w := made(t, n)
		copies := map[Letter]int{}
		lost, refusals := 0, 0
		drop := func(l Letter) {
			if copies[l] == 0 {
				t.Fatalf("%v was not sent, or not that often", l)
			}
			copies[l]--
		}
		for i := range 400 {
			switch r.Intn(8) {
			case 0, 1, 2:
				l := Letter{From: r.Intn(n), To: r.Intn(n), S: fmt.Sprint(i)}
				switch w.Send(l) {
				case api.OK:
					copies[l]++
				case api.ErrDown, api.ErrFull:
					refusals++
				}
			case 3, 4:
				if l, e := w.Take(r.Intn(w.Waits() + 1)); e == api.OK {
					drop(l)
				}
			case 5, 6:
				k := r.Intn(w.Waits() + 1)
				if l, e := w.At(k); e == api.OK && w.Double(k) == api.OK {
					copies[l]++
				}
			case 7:
				from, to, out := r.Intn(n), r.Intn(n), r.Intn(3) == 0
				if w.Cut(from, to, out) != api.OK || !out {
					continue
				}
				for l, c := range copies {
					if l.From == from && l.To == to {
						lost += c
						copies[l] = 0
					}
				}
			}
			if w.Lost() != lost+refusals {
				t.Fatalf("Lost = %d; want %d by Cut and %d that were refused", w.Lost(), lost, refusals)
			}
		}
		for w.Waits() > 0 {
			l, _ := w.Take(r.Intn(w.Waits()))
			drop(l)
		}
		for l, c := range copies {
			if c != 0 {
				t.Fatalf("%d of %v are gone", c, l)
			}
		}
	}
}
