package hop

import (
	"fmt"
	"math/rand"
	"slices"
	"testing"

	"watershed/api"
)

// flow is a sender and a receiver with a link in each direction, on which frames are as bytes.
type flow struct {
	t            *testing.T
	s            *Sender
	r            *Receiver
	epoch        int
	window, wait int
	there, back  []string
	put, taken   []string
}

func newFlow(t *testing.T, window, wait int) *flow {
	t.Helper()
	return &flow{t: t, s: sender(t, 1, 0, window, wait), r: receiver(t, 0), epoch: 1, window: window, wait: wait}
}

// add puts an item, if there is room.
func (f *flow) add(s string) {
	f.t.Helper()
	n, e := f.s.Put(s)
	if e == api.ErrFull {
		return
	}
	f.put = append(f.put, s)
	if n != len(f.put) || e != api.OK {
		f.t.Fatalf("Put = %d, %d; want %d", n, e, len(f.put))
	}
}

// bytesOf is the bytes of a frame that is one.
func (f *flow) bytesOf(x Frame) string {
	f.t.Helper()
	s, e := Write(x)
	if e != api.OK {
		f.t.Fatalf("Write(%s) = %d", shown(x), e)
	}
	return s
}

// send lays what is to be sent on the link.
func (f *flow) send() {
	f.t.Helper()
	for _, x := range f.s.Out() {
		f.there = append(f.there, f.bytesOf(Frame{Data, 8, f.epoch, x.N, x.S}))
	}
}

// arrive gives bytes to the receiver, which answers how far the flow came.
func (f *flow) arrive(s string) {
	f.t.Helper()
	x, e := Read(s)
	if e != api.OK || x.Kind != Data {
		f.t.Fatalf("Read = %s, %d", shown(x), e)
	}
	if f.r.Take(x.Epoch, x.N) {
		f.taken = append(f.taken, x.S)
	}
	if len(f.taken) > len(f.put) || !slices.Equal(f.taken, f.put[:len(f.taken)]) {
		f.t.Fatalf("taken is %q of %q", f.taken, f.put)
	}
	seen, last := f.r.Last()
	if last != len(f.taken) {
		f.t.Fatalf("%d items are taken; Last = %d", len(f.taken), last)
	}
	f.back = append(f.back, f.bytesOf(Frame{Kind: Ack, Flow: 8, Epoch: seen, N: last}))
}

// hear gives bytes to the sender.
func (f *flow) hear(s string) {
	f.t.Helper()
	x, e := Read(s)
	if e != api.OK || x.Kind != Ack {
		f.t.Fatalf("Read = %s, %d", shown(x), e)
	}
	f.s.Acked(x.Epoch, x.N)
	if acked, _, _ := f.s.State(); acked > len(f.taken) {
		f.t.Fatalf("%d items are acknowledged; %d are taken", acked, len(f.taken))
	}
}

// restart is another sender, of a greater epoch, that begins at a number of items known to have been acknowledged and has the others again.
func (f *flow) restart(acked int) {
	f.t.Helper()
	f.epoch += 1 + f.epoch%3
	f.s = sender(f.t, f.epoch, acked, f.window, f.wait)
	for _, s := range f.put[acked:] {
		if _, e := f.s.Put(s); e != api.OK {
			f.t.Fatalf("Put, again = %d", e)
		}
	}
}

// pick takes any of the frames of a link off it, or leaves a copy of it there.
func pick(r *rand.Rand, l []string) (string, []string) {
	i := r.Intn(len(l))
	s := l[i]
	if r.Intn(3) > 0 {
		l = slices.Delete(l, i, i+1)
	}
	return s, l
}

// any lets anything happen to a flow: crashes of both ends, if they may, and what links do.
func (f *flow) any(r *rand.Rand, crashes bool) {
	f.t.Helper()
	switch r.Intn(12) {
	case 0, 1:
		f.add(fmt.Sprint("item ", len(f.put)))
	case 2, 3:
		f.send()
	case 4, 5:
		f.s.Tick()
	case 6, 7, 8:
		if len(f.there) > 0 {
			s, rest := pick(r, f.there)
			f.there = rest
			f.arrive(s)
		}
	case 9, 10:
		if len(f.back) > 0 {
			s, rest := pick(r, f.back)
			f.back = rest
			f.hear(s)
		}
	case 11:
		f.fail(r, crashes)
	}
}

// fail loses a frame, or restarts an end.
func (f *flow) fail(r *rand.Rand, crashes bool) {
	f.t.Helper()
	acked, _, _ := f.s.State()
	switch r.Intn(20) {
	case 0:
		if crashes {
			// What was acknowledged last may not be known any more.
			f.restart(max(acked-r.Intn(3), len(f.put)-64, 0))
		}
	case 1:
		if crashes {
			f.r = receiver(f.t, len(f.taken))
		}
	case 2, 3, 4, 5, 6, 7, 8:
		f.there = f.there[:len(f.there)/2]
	case 9, 10:
		f.back = nil
	default:
		if len(f.there) > 0 {
			i := r.Intn(len(f.there))
			f.there = slices.Delete(f.there, i, i+1)
		}
	}
}

// drain lets everything pass until nothing waits.
func (f *flow) drain(rounds int) {
	f.t.Helper()
	for range rounds {
		f.send()
		for _, s := range f.there {
			f.arrive(s)
		}
		for _, s := range f.back {
			f.hear(s)
		}
		f.there, f.back = nil, nil
		f.s.Tick()
	}
	f.whole()
}

// whole tests that all items have arrived and are acknowledged.
func (f *flow) whole() {
	f.t.Helper()
	if !slices.Equal(f.taken, f.put) {
		f.t.Fatalf("window %d, wait %d: taken is %q of %q", f.window, f.wait, f.taken, f.put)
	}
	if _, _, waits := f.s.State(); waits != 0 {
		f.t.Fatalf("window %d, wait %d: %d items wait", f.window, f.wait, waits)
	}
}

// Promise 17.4: whatever links do, the receiver takes what was Put, in order, each once; and then everything arrives, once they are kind.
func TestInOrder(t *testing.T) {
	for seed := range int64(600) {
		r := rand.New(rand.NewSource(seed))
		f := newFlow(t, 1+r.Intn(16), 1+r.Intn(6))
		for range 700 {
			f.any(r, seed%2 == 0)
		}
		// 64 items, at least one of them in each time that a sender waits.
		f.drain(65 * (f.wait + 1))
	}
}

// Promise 17.4: where each frame passes one time of several that it is sent, all items arrive.
func TestArrives(t *testing.T) {
	for _, window := range []int{1, 2, 3, 16} {
		for _, wait := range []int{1, 2, 5} {
			for every := 1; every <= 6; every++ {
				f := newFlow(t, window, wait)
				f.someTimes(every)
				f.whole()
				if len(f.put) != 100 {
					t.Errorf("%d items were put", len(f.put))
				}
			}
		}
	}
}

// someTimes lets 100 items be sent over links that let a frame pass each so many times.
func (f *flow) someTimes(every int) {
	f.t.Helper()
	sent := map[string]int{}
	pass := func(l []string, to func(string)) {
		for _, s := range slices.Backward(l) {
			sent[s]++
			if sent[s]%every == 0 {
				to(s)
			}
		}
	}
	for range 100 * (f.wait + 1) * (every*every + 1) {
		if len(f.put) < 100 {
			f.add(fmt.Sprint("item ", len(f.put)))
		}
		f.send()
		there := f.there
		f.there = nil
		pass(there, f.arrive)
		back := f.back
		f.back = nil
		pass(back, f.hear)
		f.s.Tick()
	}
}

// Promise 17.4: where most frames are lost, by chance, all items arrive.
func TestArrivesByChance(t *testing.T) {
	for seed := range int64(60) {
		r := rand.New(rand.NewSource(seed))
		f := newFlow(t, 1+r.Intn(16), 1+r.Intn(4))
		for range 40 {
			f.add(fmt.Sprint("item ", len(f.put)))
		}
		for range 20000 {
			f.send()
			there := f.there
			f.there = nil
			for _, s := range there {
				if r.Intn(4) == 0 {
					f.arrive(s)
				}
			}
			back := f.back
			f.back = nil
			for _, s := range back {
				if r.Intn(4) == 0 {
					f.hear(s)
				}
			}
			f.s.Tick()
		}
		f.whole()
	}
}

// Promise 17.4: where nothing arrives, nothing is taken; where no acknowledgement does, items arrive as far as the window goes, each once.
func TestCutLinks(t *testing.T) {
	for window := 1; window <= 16; window++ {
		f := newFlow(t, window, 2)
		for range 30 {
			f.add(fmt.Sprint("item ", len(f.put)))
		}
		for range 50 {
			f.send()
			f.there = nil
			f.s.Tick()
		}
		if len(f.taken) != 0 {
			t.Errorf("taken is %q", f.taken)
		}
		for range 50 {
			f.send()
			for _, s := range f.there {
				f.arrive(s)
			}
			f.there, f.back = nil, nil
			f.s.Tick()
		}
		if len(f.taken) != window {
			t.Errorf("window %d: %d are taken", window, len(f.taken))
		}
		f.drain(100)
	}
}
