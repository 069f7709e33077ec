package hop

import (
	"fmt"
	"math"
	"testing"

	"watershed/api"
)

// receiver is a new one.
func receiver(t *testing.T, last int) *Receiver {
	t.Helper()
	r, e := NewReceiver(last)
	if r == nil || e != api.OK {
		t.Fatalf("NewReceiver(%d) = %v, %d", last, r, e)
	}
	return r
}

// takes tests what Take answers, and what Last then does.
func takes(t *testing.T, r *Receiver, epoch, n int, want bool, seen, last int) {
	t.Helper()
	if got := r.Take(epoch, n); got != want {
		t.Fatalf("Take(%d, %d) = %v; want %v", epoch, n, got, want)
	}
	if e, l := r.Last(); e != seen || l != last {
		t.Fatalf("after Take(%d, %d), Last = %d, %d; want %d, %d", epoch, n, e, l, seen, last)
	}
}

// Promise 17.3: the chapter's example of Take.
func TestTakeExample(t *testing.T) {
	r := receiver(t, 0)
	takes(t, r, 1, 1, true, 1, 1)
	takes(t, r, 1, 3, false, 1, 1)
	takes(t, r, 2, 2, true, 2, 2)
	takes(t, r, 1, 3, false, 2, 2)
	takes(t, r, 2, 3, true, 2, 3)
}

// Promise 17.3: a receiver begins with the items up to a number from 0 to 2^40, and with the epoch 0.
func TestNewReceiver(t *testing.T) {
	for _, last := range []int{0, 1, 2, 64, 1<<32 - 1, 1 << 32, 1<<40 - 1, 1 << 40} {
		r := receiver(t, last)
		if e, l := r.Last(); e != 0 || l != last {
			t.Errorf("NewReceiver(%d): Last = %d, %d", last, e, l)
		}
		takes(t, r, 1, last, false, 1, last)
		if last < 1<<40 {
			takes(t, r, 1, last+1, true, 1, last+1)
		}
	}
	for _, last := range []int{-1, -2, -1 << 40, math.MinInt, 1<<40 + 1, 1<<40 + 2, 1 << 41, math.MaxInt} {
		if r, e := NewReceiver(last); r != nil || e != api.ErrRange {
			t.Errorf("NewReceiver(%d) = %v, %d", last, r, e)
		}
	}
}

// Promise 17.3: only the number behind the last one is taken.
func TestTakeNumbers(t *testing.T) {
	for _, last := range []int{0, 1, 5, 1 << 32, 1<<40 - 1} {
		for _, n := range []int{math.MinInt, -1, 0, 1, 2, 3, 4, 5, 6, 7, 1<<32 + 1, 1<<33 + 1, 1 << 40, math.MaxInt, last - 1, last, last + 1, last + 2, last + 1<<32 + 1} {
			r := receiver(t, last)
			want := n == last+1
			now := last
			if want {
				now = n
			}
			takes(t, r, 3, n, want, 3, now)
			takes(t, r, 3, n, false, 3, now)
		}
	}
}

// Promise 17.3: a lesser epoch than the one seen takes nothing and changes nothing; a greater one is seen, whether or not the item is the next one.
func TestTakeEpochs(t *testing.T) {
	r := receiver(t, 4)
	takes(t, r, 7, 9, false, 7, 4)
	for _, epoch := range []int{6, 1, 0, -1, math.MinInt, 7 - 1<<32} {
		takes(t, r, epoch, 5, false, 7, 4)
	}
	takes(t, r, 7, 5, true, 7, 5)
	takes(t, r, 1<<30, 5, false, 1<<30, 5)
	takes(t, r, 1<<30-1, 6, false, 1<<30, 5)
	takes(t, r, 1<<30, 6, true, 1<<30, 6)
	takes(t, receiver(t, 0), -1, 1, false, 0, 0)
}

// Promise 17.3: what is done with one receiver does not reach another one.
func TestReceiversApart(t *testing.T) {
	a, b := receiver(t, 0), receiver(t, 0)
	takes(t, a, 1, 1, true, 1, 1)
	if e, n := b.Last(); e != 0 || n != 0 {
		t.Errorf("the other one: Last = %d, %d", e, n)
	}
	takes(t, b, 1, 1, true, 1, 1)
	takes(t, b, 1, 2, true, 1, 2)
	if e, n := a.Last(); e != 1 || n != 1 {
		t.Errorf("the first one: Last = %d, %d", e, n)
	}
}

// heard is what a receiver was given.
type heard struct{ epoch, n int }

// answer is what Take answers to the last of those, as the chapter defines it, and the items that were taken then.
func answer(l []heard) (bool, []heard) {
	seen := 0
	took := false
	var taken []heard
	for _, h := range l {
		took = h.epoch >= seen && h.n == len(taken)+1
		seen = max(seen, h.epoch)
		if took {
			taken = append(taken, h)
		}
	}
	return took, taken
}

// Promise 17.3: all short sequences of calls, held against the definition.
func TestReceiverShort(t *testing.T) {
	var calls []heard
	for epoch := range 4 {
		for n := range 5 {
			calls = append(calls, heard{epoch, n})
		}
	}
	const depth = 4
	for x := range power(len(calls), depth) {
		r := receiver(t, 0)
		var l []heard
		seen := 0
		for range depth {
			h := calls[x%len(calls)]
			x /= len(calls)
			l = append(l, h)
			seen = max(seen, h.epoch)
			got := r.Take(h.epoch, h.n)
			want, taken := answer(l)
			if e, n := r.Last(); got != want || e != seen || n != len(taken) {
				t.Fatalf("%s: Take = %v, Last = %d, %d; want %v, %d, %d", fmt.Sprint(l), got, e, n, want, seen, len(taken))
			}
		}
	}
}
