package hop

import "watershed/api"

// Receiver is how far a flow came.
type Receiver struct {
	epoch, last int
}

// NewReceiver has the items up to a number.
func NewReceiver(last int) (*Receiver, api.Errno) {
	if !within(last, 0, maxNumber) {
		return nil, api.ErrRange
	}
	return &Receiver{last: last}, api.OK
}

// Take tells whether an item is the next one; it is had then.
func (r *Receiver) Take(epoch, n int) bool {
	if epoch < r.epoch {
		return false
	}
	r.epoch = epoch
	if n != r.last+1 {
		return false
	}
	r.last = n
	return true
}

// Last is the epoch that was seen last, and the number of the last item.
func (r *Receiver) Last() (int, int) { return r.epoch, r.last }
