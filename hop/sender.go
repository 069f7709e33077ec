package hop

import (
	"slices"

	"watershed/api"
)

// How many items may be sent ahead of the first one that is not acknowledged, how many ticks that may last, and how many items may wait.
const (
	maxWindow = 16
	maxWait   = 100
	room      = 64
)

// Item is a number, and a text.
type Item struct {
	N int
	S string
}

// Sender is items that are to come to the other end.
type Sender struct {
	epoch, window, wait int
	// How far the flow came, and up to where items count as sent, which is never less.
	acked, sent int
	ticks       int
	// The items behind the last one that is acknowledged.
	waiting []Item
}

// NewSender sends items behind a number, by an epoch, so many at a time, again behind so many ticks.
func NewSender(epoch, acked, window, wait int) (*Sender, api.Errno) {
	if !within(epoch, 1, maxEpoch) || !within(acked, 0, maxNumber) {
		return nil, api.ErrRange
	}
	if !within(window, 1, maxWindow) || !within(wait, 1, maxWait) {
		return nil, api.ErrRange
	}
	return &Sender{epoch: epoch, window: window, wait: wait, acked: acked, sent: acked}, api.OK
}

// next is the number that the next item gets.
func (s *Sender) next() int { return s.acked + len(s.waiting) + 1 }

// Put lays an item behind the others; its number.
func (s *Sender) Put(t string) (int, api.Errno) {
	if len(t) > maxText {
		return 0, api.ErrLong
	}
	n := s.next()
	if len(s.waiting) >= room || n > maxNumber {
		return 0, api.ErrFull
	}
	s.waiting = append(s.waiting, Item{N: n, S: t})
	return n, api.OK
}

// Acked takes the word of how far the flow came; whether it came farther.
func (s *Sender) Acked(epoch, n int) bool {
	if epoch != s.epoch || n <= s.acked || n >= s.next() {
		return false
	}
	s.waiting = slices.Delete(s.waiting, 0, n-s.acked)
	s.acked = n
	// A sender that starts again has not sent what the other end may have from the one before.
	s.sent = max(s.sent, n)
	s.ticks = 0
	return true
}

// Tick lets time go by.
func (s *Sender) Tick() {
	if s.sent == s.acked {
		return
	}
	s.ticks++
	if s.ticks >= s.wait {
		s.sent, s.ticks = s.acked, 0
	}
}

// due is the items that are to be sent now, among the waiting ones.
func (s *Sender) due() []Item {
	from, to := s.sent-s.acked, min(s.window, len(s.waiting))
	// Further items wait behind them: what is appended to these must not run over those.
	return s.waiting[from:to:to]
}

// Out is the items that are to be sent now.
func (s *Sender) Out() []Item {
	l := slices.Clone(s.due())
	s.sent += len(l)
	return l
}

// State is how far the flow came, the number that the next item gets, and how many wait.
func (s *Sender) State() (int, int, int) { return s.acked, s.next(), len(s.waiting) }
