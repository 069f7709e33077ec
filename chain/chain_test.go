package chain

import (
	"math"
	"slices"
	"strings"
	"testing"

	"watershed/api"
	"watershed/code"
	"watershed/stamp"
)

const most = api.MaxCount

// at is a time with this epoch and these rounds.
func at(epoch uint32, rounds ...uint32) api.Time {
	t := api.Time{Epoch: epoch, Depth: len(rounds)}
	copy(t.Loop[:], rounds)
	return t
}

// raw is a time of any kind, valid or not.
func raw(depth int, epoch uint32, loop ...uint32) api.Time {
	t := at(epoch, loop...)
	t.Depth = depth
	return t
}

// list are times in a list.
func list(l ...api.Time) []api.Time { return l }

// deep is a time of a depth whose other rounds stand between the epoch and the last one.
func deep(depth int, epoch, last, others uint32) api.Time {
	t := at(epoch, others, others, others)
	t.Depth = depth
	clear(t.Loop[depth:])
	t.Loop[depth-1] = last
	return t
}

// stairs is a frontier of so many times of a depth from 1 on: the epoch rises by a step each time, the last round falls.
func stairs(n, depth int, step uint32) []api.Time {
	l := []api.Time{}
	for i := range n {
		l = append(l, deep(depth, uint32(i)*step, uint32(n-1-i)*step, 7))
	}
	return l
}

// below tells by the numbers themselves whether one of two times of one depth is less than or equal to the other one.
func below(a, b api.Time) bool {
	return a.Depth == b.Depth && a.Epoch <= b.Epoch &&
		a.Loop[0] <= b.Loop[0] && a.Loop[1] <= b.Loop[1] && a.Loop[2] <= b.Loop[2]
}

// holds tells whether a time of a list is less than or equal to a time.
func holds(l []api.Time, t api.Time) bool {
	for _, x := range l {
		if below(x, t) {
			return true
		}
	}
	return false
}

// defined are the minimal elements of valid times of one depth, as the definition tells them.
func defined(l []api.Time) []api.Time {
	out := []api.Time{}
	for _, t := range l {
		isLesser := func(x api.Time) bool { return x != t && below(x, t) }
		if !slices.ContainsFunc(l, isLesser) && !slices.Contains(out, t) {
			out = append(out, t)
		}
	}
	slices.SortFunc(out, func(a, b api.Time) int {
		return slices.Compare(append([]uint32{a.Epoch}, a.Loop[:]...), append([]uint32{b.Epoch}, b.Loop[:]...))
	})
	return out
}

// cube are the times of a depth with each of some numbers in each place.
func cube(depth int, values ...uint32) []api.Time {
	l := []api.Time{}
	for _, v := range values {
		l = append(l, at(v))
	}
	for d := range depth {
		longer := []api.Time{}
		for _, t := range l {
			for _, v := range values {
				t.Depth, t.Loop[d] = d+1, v
				longer = append(longer, t)
			}
		}
		l = longer
	}
	return l
}

// fewTimes are some times of a depth, in which each two numbers are less, equal and greater somewhere.
func fewTimes(depth int) []api.Time {
	if depth < 2 {
		return cube(depth, 0, 1, most)
	}
	return cube(depth, 0, most)
}

// lists are the lists of at most so many of some times.
func lists(l []api.Time, n int) [][]api.Time {
	out := [][]api.Time{{}}
	for from := 0; n > 0; n-- {
		to := len(out)
		for _, head := range out[from:to] {
			for _, t := range l {
				out = append(out, append(slices.Clone(head), t))
			}
		}
		from = to
	}
	return out
}

// frontiers are those of at most 3 of some times of a depth.
func frontiers(l []api.Time) [][]api.Time {
	out := [][]api.Time{}
	for _, x := range lists(l, 3) {
		if slices.Equal(x, defined(x)) {
			out = append(out, x)
		}
	}
	return out
}

// badTime is what is no time, and what is wrong with it.
type badTime struct {
	t api.Time
	e api.Errno
}

func badTimes() []badTime {
	return []badTime{
		{raw(-1, 0), api.ErrDepth},
		{raw(4, most+1, 1, 2, 3), api.ErrDepth},
		{raw(math.MinInt, 0), api.ErrDepth},
		{raw(math.MaxInt, 0), api.ErrDepth},
		{raw(1<<32, 0), api.ErrDepth},
		{raw(0, most+1), api.ErrRange},
		{raw(3, math.MaxUint32, 1, 2, 3), api.ErrRange},
		{raw(2, 3, 1, most+1), api.ErrRange},
		{raw(1, 3, 1, 0, 1<<31), api.ErrRange},
		{raw(0, 3, 1), api.ErrField},
		{raw(1, 3, 1, 0, 1), api.ErrField},
		{raw(2, 3, 1, 1, 1), api.ErrField},
	}
}

// fault is a list, and what is wrong with it first.
type fault struct {
	l []api.Time
	e api.Errno
}

// repeat is a list of so many of one time.
func repeat(n int, t api.Time) []api.Time { return slices.Repeat(list(t), n) }

// badElements are lists of at most 64 times that neither Make nor Check takes.
func badElements() []fault {
	out := []fault{
		{list(at(0), at(0, 0)), api.ErrDepth},
		{list(at(3, 1), at(4)), api.ErrDepth},
		{list(at(3), at(4), at(5, 0, 0)), api.ErrDepth},
		{list(at(3, 1, 1, 1), at(3, 1, 1)), api.ErrDepth},
		{append(repeat(63, at(0)), at(0, 0)), api.ErrDepth},
		{append(list(at(0, 0)), repeat(63, at(0))...), api.ErrDepth},
	}
	for _, b := range badTimes() {
		out = append(out,
			fault{list(b.t), b.e},
			fault{list(b.t, b.t), b.e},
			fault{list(at(1), b.t), b.e},
			fault{list(b.t, at(1)), b.e},
			fault{list(at(1, 1), b.t, at(1, 1)), b.e},
			fault{append(repeat(63, at(1)), b.t), b.e},
			// A time that is none is found ahead of unlike depths, wherever it is, and ahead of a wrong order.
			fault{list(at(1), at(1, 1), b.t), b.e},
			fault{list(at(1), at(1), at(0), b.t), b.e},
		)
		// Of two, the first one in the list tells.
		for _, c := range badTimes() {
			out = append(out, fault{list(at(1), b.t, at(1, 1), c.t), b.e})
		}
	}
	return out
}

// notFrontiers are lists that Make takes, and that are none that it returns.
func notFrontiers() [][]api.Time {
	swapped := stairs(64, 1, 1)
	swapped[62], swapped[63] = swapped[63], swapped[62]
	above := stairs(64, 3, 1)
	above[63] = deep(3, 63, 1, 7)
	return [][]api.Time{
		list(at(1), at(1)),
		list(at(1), at(2)),
		list(at(2), at(1)),
		list(at(0), at(most)),
		list(at(1, 2), at(0, 3), at(1, 3), at(0, 3)),
		list(at(1, 2), at(0, 3)),
		list(at(0, 3), at(1, 2), at(1, 2)),
		list(at(0, 3), at(0, 3), at(1, 2)),
		list(at(0, 3), at(1, 2), at(1, 3)),
		list(at(0, 3), at(0, 4), at(1, 2)),
		list(at(0, 3), at(1, 3)),
		list(at(0, 3), at(1, 2), at(2, 1), at(3, 1)),
		list(at(0, 3), at(2, 1), at(1, 2)),
		list(at(0, 1, 2), at(0, 1, 2)),
		list(at(0, 1, 2), at(0, 0, 3)),
		list(at(0, 1, 2), at(1, 1, 2)),
		list(at(0, 1, 2, 3), at(0, 1, 3, 2), at(0, 1, 3, 3)),
		list(at(0, 1, 3, 2), at(0, 1, 2, 3)),
		repeat(64, at(5)),
		swapped,
		above,
	}
}

// goodFrontiers are frontiers of each depth, from none to 64 times.
func goodFrontiers() [][]api.Time {
	out := [][]api.Time{
		nil,
		{},
		list(at(0)),
		list(at(most)),
		list(at(0, 0)),
		list(at(3, most)),
		list(at(3, 0, 1)),
		list(at(most, most, most, most)),
		list(at(0, 3), at(1, 2)),
		list(at(0, most), at(most, 0)),
		list(at(0, 3), at(1, 2), at(2, 1), at(3, 0)),
		list(at(0, 0, 3), at(0, 1, 2), at(1, 0, 2)),
		list(at(5, 0, 3), at(5, 1, 2), at(5, 2, 1)),
		list(at(0, 0, 0, 1), at(0, 0, 1, 0), at(0, 1, 0, 0), at(1, 0, 0, 0)),
		list(at(1, 2, 3, 4), at(1, 2, 4, 3), at(1, 3, 2, 4), at(2, 1, 3, 4)),
	}
	for depth := 1; depth <= 3; depth++ {
		out = append(out, stairs(2, depth, most), stairs(63, depth, 1), stairs(64, depth, 1), stairs(64, depth, 1000))
	}
	return out
}

// same tells whether a list is the one that was wanted; neither may be told from the other if both are empty.
func same(t *testing.T, name string, got []api.Time, e api.Errno, want []api.Time) {
	t.Helper()
	if !slices.Equal(got, want) || e != api.OK {
		t.Errorf("%s = %v, %d; want %v, 0", name, got, e, want)
	}
}

// wants tells whether a call answered this error and no list.
func wants(t *testing.T, name string, got []api.Time, e, want api.Errno) {
	t.Helper()
	if len(got) != 0 || e != want {
		t.Errorf("%s = %v, %d; want nothing, %d", name, got, e, want)
	}
}

// Promise 6.1: Make of the chapter's example, of times in any order, of times that stand twice, at each depth.
func TestMake(t *testing.T) {
	for _, c := range []struct{ l, want []api.Time }{
		{nil, nil},
		{list(), nil},
		{list(at(1, 2), at(0, 3), at(1, 3), at(0, 3)), list(at(0, 3), at(1, 2))},
		{list(at(5)), list(at(5))},
		{list(at(0)), list(at(0))},
		{list(at(most)), list(at(most))},
		{list(at(5), at(5)), list(at(5))},
		{list(at(5), at(3), at(4)), list(at(3))},
		{list(at(3), at(4), at(3)), list(at(3))},
		{list(at(10), at(9), at(100)), list(at(9))},
		{list(at(most, most)), list(at(most, most))},
		{list(at(0, most), at(most, 0)), list(at(0, most), at(most, 0))},
		{list(at(most, 0), at(0, most)), list(at(0, most), at(most, 0))},
		{list(at(1, 1), at(0, 1), at(1, 0), at(0, 0)), list(at(0, 0))},
		{list(at(1, 1), at(0, 1), at(1, 0)), list(at(0, 1), at(1, 0))},
		{list(at(3, 0), at(2, 1), at(1, 2), at(0, 3)), list(at(0, 3), at(1, 2), at(2, 1), at(3, 0))},
		{list(at(2, 10), at(10, 2), at(9, 9)), list(at(2, 10), at(9, 9), at(10, 2))},
		{list(at(3, 0), at(3, 0), at(2, 1), at(3, 1), at(2, 1)), list(at(2, 1), at(3, 0))},
		{list(at(1, 0, 0), at(0, 1, 0), at(0, 0, 1), at(1, 1, 0)), list(at(0, 0, 1), at(0, 1, 0), at(1, 0, 0))},
		{list(at(0, 2, 1), at(0, 1, 2), at(0, 2, 2)), list(at(0, 1, 2), at(0, 2, 1))},
		{list(at(1, 2, 3, 4), at(1, 2, 4, 3), at(1, 2, 4, 4)), list(at(1, 2, 3, 4), at(1, 2, 4, 3))},
		{list(at(4, 3, 2, 1), at(4, 3, 2, 0), at(0, 0, 0, most)), list(at(0, 0, 0, most), at(4, 3, 2, 0))},
		// The least one of all comes last, or stands between others that it takes away.
		{append(stairs(64, 2, 1), at(0, 0, 0)), list(at(0, 0, 0))},
		{append(append(stairs(64, 3, 1), deep(3, 0, 0, 7)), stairs(64, 3, 2)...), list(deep(3, 0, 0, 7))},
	} {
		got, e := Make(c.l)
		same(t, "Make", got, e, c.want)
	}
	for _, l := range goodFrontiers() {
		got, e := Make(l)
		same(t, "Make of a frontier", got, e, l)
		back := slices.Clone(l)
		slices.Reverse(back)
		got, e = Make(append(back, l...))
		same(t, "Make of a frontier twice, once reversed", got, e, l)
	}
}

// Promise 6.1: Make of all short lists of times is what the definition says, and what Check takes of them is just what Make returns.
func TestMakeAll(t *testing.T) {
	for depth, n := range []int{4, 3, 3, 2} {
		taken := 0
		for _, l := range lists(fewTimes(depth), n) {
			want := defined(l)
			got, e := Make(l)
			same(t, "Make", got, e, want)
			check := api.ErrField
			if slices.Equal(l, want) {
				check, taken = api.OK, taken+1
			}
			if e := Check(l); e != check {
				t.Errorf("Check(%v) = %d; want %d", l, e, check)
			}
		}
		if taken < 4 {
			t.Errorf("only %d frontiers of the depth %d", taken, depth)
		}
	}
}

// Promise 6.1: Make of 4096 times, of which one, some or 64 are minimal, and of a time more.
func TestMakeMany(t *testing.T) {
	for depth := 1; depth <= 3; depth++ {
		l := []api.Time{}
		for i := range 64 {
			for _, x := range stairs(64, depth, 1) {
				x.Epoch += uint32(i)
				l = append(l, x)
			}
		}
		got, e := Make(l)
		same(t, "Make of 4096", got, e, stairs(64, depth, 1))
		slices.Reverse(l)
		got, e = Make(l)
		same(t, "Make of 4096, reversed", got, e, stairs(64, depth, 1))
		got, e = Make(append(slices.Clone(l), l[0]))
		wants(t, "Make of 4097", got, e, api.ErrLong)
	}
	l := []api.Time{}
	for i := range 4096 {
		l = append(l, at(uint32(5+(i+2000)%4096)))
	}
	got, e := Make(l)
	same(t, "Make of 4096 of the depth 0", got, e, list(at(5)))
	got, e = Make(repeat(4096, at(2, 2, 2, 2)))
	same(t, "Make of 4096 that are one", got, e, list(at(2, 2, 2, 2)))
	for _, n := range []int{4097, 4098, 1 << 16, 1 << 20} {
		got, e = Make(repeat(n, at(0)))
		wants(t, "Make of more than 4096 that are one", got, e, api.ErrLong)
	}
}

// Promise 6.1: Make with a result of 64 times, and of more.
func TestMakeLongResult(t *testing.T) {
	for depth := 1; depth <= 3; depth++ {
		for _, n := range []int{65, 66, 128, 4096} {
			got, e := Make(stairs(n, depth, 1))
			wants(t, "Make of too many minimal ones", got, e, api.ErrLong)
		}
		// 65, of which the last one has another one below it: 64 are left.
		l := stairs(65, depth, 1)
		l[64] = deep(depth, 64, 1, 7)
		got, e := Make(l)
		same(t, "Make of 65 with one that is not minimal", got, e, l[:64])
		// 65, and one that takes two of them away.
		l = stairs(65, depth, 2)
		l = append(l, deep(depth, 63*2, 0, 7))
		got, e = Make(l)
		same(t, "Make of 65 with one below two of them", got, e, append(slices.Clone(l[:63]), l[65]))
	}
	l := []api.Time{}
	for i := range uint32(4096) {
		l = append(l, at(0, i/64, 63-i/64+63-i%64, i%64))
	}
	got, e := Make(l)
	wants(t, "Make of 4096 minimal ones of the depth 3", got, e, api.ErrLong)
}

// Promise 6.1: what Make and Check find wrong first.
func TestMakeCheckBad(t *testing.T) {
	for _, c := range badElements() {
		got, e := Make(c.l)
		wants(t, "Make", got, e, c.e)
		if e := Check(c.l); e != c.e {
			t.Errorf("Check(%v) = %d; want %d", c.l, e, c.e)
		}
	}
	for _, l := range notFrontiers() {
		if e := Check(l); e != api.ErrField {
			t.Errorf("Check(%v) = %d; want %d", l, e, api.ErrField)
		}
	}
	for _, l := range goodFrontiers() {
		if e := Check(l); e != api.OK {
			t.Errorf("Check(%v) = %d", l, e)
		}
	}
}

// Promise 6.1: too many times are told ahead of what is wrong with one of them, and that ahead of too long a result.
func TestMakeOrderOfErrors(t *testing.T) {
	for _, b := range badTimes() {
		got, e := Make(append(repeat(4096, at(0)), b.t))
		wants(t, "Make of 4097 with a bad one", got, e, api.ErrLong)
		got, e = Make(append(repeat(4095, at(0)), b.t))
		wants(t, "Make of 4096 with a bad one", got, e, b.e)
		got, e = Make(append(stairs(65, 1, 1), b.t))
		wants(t, "Make of 65 minimal ones and a bad one", got, e, b.e)
	}
	got, e := Make(append(repeat(4096, at(0)), at(0, 0)))
	wants(t, "Make of 4097 of two depths", got, e, api.ErrLong)
	got, e = Make(append(repeat(4095, at(0)), at(0, 0)))
	wants(t, "Make of 4096 of two depths", got, e, api.ErrDepth)
	got, e = Make(append(stairs(65, 1, 1), at(0)))
	wants(t, "Make of 65 minimal ones and one of another depth", got, e, api.ErrDepth)
}

// longLists are lists of more than 64 times; whatever else is wrong, they are too long.
func longLists() [][]api.Time {
	out := [][]api.Time{
		stairs(65, 1, 1), stairs(65, 2, 1), stairs(65, 3, 1), stairs(4096, 1, 1), stairs(5000, 2, 1),
		repeat(65, at(0)), repeat(1<<16, at(0)),
		append(repeat(64, at(0)), at(0, 0)),
	}
	for _, b := range badTimes() {
		out = append(out, append(list(b.t), stairs(64, 1, 1)...), append(stairs(64, 1, 1), b.t), repeat(65, b.t))
	}
	return out
}

// Promise 6.1: Check of more than 64 times.
func TestCheckLong(t *testing.T) {
	for _, l := range longLists() {
		if e := Check(l); e != api.ErrLong {
			t.Errorf("Check of %d times = %d; want %d", len(l), e, api.ErrLong)
		}
	}
}

// Promise 6.1: Holds of frontiers at their edges.
func TestHolds(t *testing.T) {
	stair := stairs(64, 2, 10)
	for _, c := range []struct {
		l    []api.Time
		t    api.Time
		want bool
	}{
		{list(at(0, 3), at(1, 2)), at(1, 5), true},
		{list(at(0, 3), at(1, 2)), at(0, 2), false},
		{list(at(0, 3), at(1, 2)), at(0, 3), true},
		{list(at(0, 3), at(1, 2)), at(1, 2), true},
		{list(at(0, 3), at(1, 2)), at(1, 1), false},
		{list(at(0, 3), at(1, 2)), at(most, 1), false},
		{list(at(0, 3), at(1, 2)), at(0, most), true},
		{list(at(0, 3), at(1, 2)), at(1), false},
		{list(at(0, 3), at(1, 2)), at(1, 5, 0), false},
		{nil, at(0), false},
		{list(), at(most, most, most, most), false},
		{list(at(5)), at(4), false},
		{list(at(5)), at(5), true},
		{list(at(5)), at(6), true},
		{list(at(0)), at(0, 0), false},
		{list(at(0, 0, 0, 0)), at(most, most, most, most), true},
		{list(at(0, 0, 0, 1)), at(most, most, most, 0), false},
		{stair, deep(2, 629, 0, 7), false},
		{stair, deep(2, 630, 0, 7), true},
		{stair, deep(2, 630, 0, 6), false},
		{stair, deep(2, 0, 629, 7), false},
		{stair, deep(2, 0, 630, 7), true},
		{stair, deep(2, 319, 319, 7), false},
		{stair, deep(2, 310, 320, 7), true},
	} {
		if got := Holds(c.l, c.t); got != c.want {
			t.Errorf("Holds(%v, %v) = %v", c.l, c.t, got)
		}
	}
}

// Promise 6.1: Holds and promise 6.2: LE of lists that are no frontiers, or have what is no time in them.
func TestHoldsAnyLists(t *testing.T) {
	mixed := list(raw(4, 0), at(7, 7), raw(-1, 0), at(5), at(3), raw(0, most+5, 1), at(7, 7), at(1, 1, 1))
	for _, c := range []struct {
		l    []api.Time
		t    api.Time
		want bool
	}{
		{mixed, at(3), true},
		{mixed, at(2), false},
		{mixed, at(7, 7), true},
		{mixed, at(7, 6), false},
		{mixed, at(1, 1, 2), true},
		{mixed, at(0, 0, 0, 0), false},
		{mixed, raw(4, 0), false},
		{mixed, raw(-1, 0), false},
		{mixed, raw(0, most+1), true},
		{mixed, raw(0, 3, 9, 9, 9), true},
		{mixed, raw(1, 7, 7, most+1), true},
		{list(raw(0, most+5)), raw(0, most+5), true},
		{list(raw(0, most+5)), raw(0, most+4), false},
		{list(raw(1, 3, 1, 9)), at(3, 1), true},
		{list(raw(1, 3, 2, 0)), at(3, 1), false},
		{list(raw(math.MaxInt, 0)), raw(math.MaxInt, 0), false},
		{repeat(1<<16, at(5)), at(4), false},
		{append(repeat(1<<16, at(5)), at(4)), at(4), true},
	} {
		if got := Holds(c.l, c.t); got != c.want {
			t.Errorf("Holds of %d times, %v = %v", len(c.l), c.t, got)
		}
		if got := LE(c.l, list(c.t)); got != c.want {
			t.Errorf("LE of %d times, %v = %v", len(c.l), c.t, got)
		}
		if got := LE(c.l, list(c.t, c.t, at(7, 7))); got != (c.want && Holds(c.l, at(7, 7))) {
			t.Errorf("LE of %d times, %v and 7.7 = %v", len(c.l), c.t, got)
		}
	}
}

// Promise 6.2: LE of frontiers at their edges, and with the empty list.
func TestLE(t *testing.T) {
	stair := stairs(64, 2, 10)
	for _, c := range []struct {
		a, b   []api.Time
		ab, ba bool
	}{
		{list(at(1)), list(at(2)), true, false},
		{list(at(1)), list(at(1)), true, true},
		{nil, list(), true, true},
		{list(at(1)), nil, true, false},
		{stair, nil, true, false},
		{list(raw(4, 0)), nil, true, false},
		{list(at(0, 3), at(1, 2)), list(at(1, 3)), true, false},
		{list(at(0, 3), at(1, 2)), list(at(0, 3)), true, false},
		{list(at(0, 3), at(1, 2)), list(at(0, 4), at(1, 3)), true, false},
		{list(at(0, 3), at(1, 2)), list(at(0, 3), at(2, 1)), false, false},
		{list(at(0, 3), at(1, 2)), list(at(1, 2), at(2, 1)), false, false},
		{list(at(0, 3), at(1, 2)), list(at(0, 2)), false, true},
		{list(at(1)), list(at(1, 0)), false, false},
		{list(at(0)), list(at(5), at(0, 0)), false, false},
		{list(raw(4, 0)), list(raw(4, 0)), false, false},
		{list(at(2), at(1)), list(at(1), at(1), at(3)), true, true},
		{stair, stairs(64, 2, 11), true, false},
		{stair, append(stairs(64, 2, 11), deep(2, 0, 0, 8)), false, false},
		{stair, slices.Concat(stair, stair), true, true},
		{stair, append(slices.Clone(stair), deep(2, 629, 0, 7)), false, true},
		{list(deep(2, 0, 0, 7)), stair, true, false},
	} {
		if ab, ba := LE(c.a, c.b), LE(c.b, c.a); ab != c.ab || ba != c.ba {
			t.Errorf("of %v and %v, LE is %v, and the other way round %v", c.a, c.b, ab, ba)
		}
	}
}

// Promise 6.2: Meet and Join of the chapter's example, of the empty frontier, and of frontiers of each depth.
func TestMeetJoin(t *testing.T) {
	for _, c := range []struct{ a, b, meet, join []api.Time }{
		{list(at(1)), list(at(2)), list(at(1)), list(at(2))},
		{list(at(7)), list(at(7)), list(at(7)), list(at(7))},
		{nil, nil, nil, nil},
		{list(at(1)), nil, list(at(1)), nil},
		{list(at(0, 3), at(1, 2)), list(), list(at(0, 3), at(1, 2)), nil},
		{list(at(3, 1, 4)), list(), list(at(3, 1, 4)), nil},
		{list(at(0, 3), at(1, 2)), list(at(1, 2), at(2, 0)), list(at(0, 3), at(1, 2), at(2, 0)), list(at(1, 2))},
		{list(at(0, 3)), list(at(3, 0)), list(at(0, 3), at(3, 0)), list(at(3, 3))},
		{list(at(0, 4), at(4, 0)), list(at(2, 2)), list(at(0, 4), at(2, 2), at(4, 0)), list(at(2, 4), at(4, 2))},
		{list(at(0, most), at(most, 0)), list(at(0, 0)), list(at(0, 0)), list(at(0, most), at(most, 0))},
		{list(at(1, 2, 3)), list(at(3, 2, 1)), list(at(1, 2, 3), at(3, 2, 1)), list(at(3, 2, 3))},
		{list(at(1, 2, 3, 4)), list(at(4, 3, 2, 1)), list(at(1, 2, 3, 4), at(4, 3, 2, 1)), list(at(4, 3, 3, 4))},
		{stairs(64, 2, 1), stairs(64, 2, 1), stairs(64, 2, 1), stairs(64, 2, 1)},
		{stairs(64, 3, 1), list(deep(3, 0, 0, 7)), list(deep(3, 0, 0, 7)), stairs(64, 3, 1)},
	} {
		for _, both := range [][2][]api.Time{{c.a, c.b}, {c.b, c.a}} {
			got, e := Meet(both[0], both[1])
			same(t, "Meet", got, e, c.meet)
			got, e = Join(both[0], both[1])
			same(t, "Join", got, e, c.join)
		}
	}
}

// pairs are the joins of each time of a list with each one of another one.
func pairs(a, b []api.Time) []api.Time {
	l := []api.Time{}
	for _, x := range a {
		for _, y := range b {
			z := at(max(x.Epoch, y.Epoch), max(x.Loop[0], y.Loop[0]), max(x.Loop[1], y.Loop[1]), max(x.Loop[2], y.Loop[2]))
			z.Depth = x.Depth
			l = append(l, z)
		}
	}
	return l
}

// Promise 6.2: Meet and Join of all short frontiers are what the definition says.
func TestMeetJoinAll(t *testing.T) {
	for depth := range 4 {
		l := frontiers(fewTimes(depth))
		for _, a := range l {
			for _, b := range l {
				got, e := Meet(a, b)
				same(t, "Meet", got, e, defined(slices.Concat(a, b)))
				got, e = Join(a, b)
				same(t, "Join", got, e, defined(pairs(a, b)))
			}
		}
	}
}

// zigzag are two staircases of so many times, each of which bends where the other one goes on: their join bends with both.
func zigzag(n, m int) (a, b []api.Time) {
	for i := range uint32(n) {
		a = append(a, at(4*i, 1000-4*i))
	}
	for i := range uint32(m) {
		b = append(b, at(4*i+1, 997-4*i))
	}
	return a, b
}

// Promise 6.2: Meet and Join with a result of 64 times, and of 65.
func TestMeetJoinLong(t *testing.T) {
	all := stairs(65, 1, 1)
	for _, n := range []int{1, 2, 32, 33, 63, 64} {
		got, e := Meet(all[:n], all[n:])
		wants(t, "Meet to 65", got, e, api.ErrLong)
		got, e = Meet(all[1:n+1], all[n:])
		same(t, "Meet to 64", got, e, all[1:])
	}
	for _, c := range [][3]int{{64, 2, 4}, {32, 32, 63}, {32, 33, 63}, {33, 32, 64}, {33, 33, 65}, {63, 64, 125}, {64, 64, 127}} {
		a, b := zigzag(c[0], c[1])
		want := defined(pairs(a, b))
		got, e := Join(a, b)
		if len(want) > 64 {
			wants(t, "Join to more than 64", got, e, api.ErrLong)
		} else {
			same(t, "Join to at most 64", got, e, want)
		}
		if c[2] != len(want) {
			t.Errorf("the join of %d and %d times has %d", c[0], c[1], len(want))
		}
	}
}

// calls are Meet and Join.
func calls() map[string]func(a, b []api.Time) ([]api.Time, api.Errno) {
	return map[string]func(a, b []api.Time) ([]api.Time, api.Errno){"Meet": Meet, "Join": Join}
}

// noFrontiers are lists that Check does not take, and what is wrong with them first.
func noFrontiers() []fault {
	out := badElements()
	for _, l := range notFrontiers() {
		out = append(out, fault{l, api.ErrField})
	}
	for _, l := range longLists() {
		out = append(out, fault{l, api.ErrLong})
	}
	return out
}

// Promise 6.2: Meet and Join answer what is wrong with the first list, then with the second one, then with the depths.
func TestMeetJoinErrors(t *testing.T) {
	good := [][]api.Time{nil, {}, list(at(3)), list(at(0, 3), at(1, 2)), list(at(1, 1, 1)), stairs(64, 3, 1)}
	few := []fault{
		{repeat(65, at(0)), api.ErrLong},
		{list(raw(0, most+1)), api.ErrRange},
		{list(at(0), at(0, 0)), api.ErrDepth},
		{list(at(1), at(0)), api.ErrField},
	}
	for name, f := range calls() {
		for _, c := range noFrontiers() {
			for _, l := range good {
				got, e := f(c.l, l)
				wants(t, name+" of a bad one and a good one", got, e, c.e)
				got, e = f(l, c.l)
				wants(t, name+" of a good one and a bad one", got, e, c.e)
			}
			for _, d := range few {
				got, e := f(c.l, d.l)
				wants(t, name+" of two bad ones", got, e, c.e)
				got, e = f(d.l, c.l)
				wants(t, name+" of two bad ones", got, e, d.e)
			}
		}
	}
}

// Promise 6.2: Meet and Join of two depths; an empty frontier is of any.
func TestMeetJoinDepths(t *testing.T) {
	for name, f := range calls() {
		for i, a := range [][]api.Time{list(at(0)), stairs(64, 1, 1), stairs(64, 2, 1), stairs(64, 3, 1)} {
			for j, b := range [][]api.Time{list(at(0)), list(at(0, 0)), list(at(0, 0, 0)), list(at(0, 0, 0, 0))} {
				got, e := f(a, b)
				if i != j {
					wants(t, name+" of two depths", got, e, api.ErrDepth)
				} else if e != api.OK {
					t.Errorf("%s of one depth: error %d", name, e)
				}
			}
			for _, none := range [][]api.Time{nil, {}} {
				if _, e := f(a, none); e != api.OK {
					t.Errorf("%s with none: error %d", name, e)
				}
				if _, e := f(none, a); e != api.OK {
					t.Errorf("%s of none: error %d", name, e)
				}
			}
		}
	}
}

// Promise 6.3: Text and Write of frontiers of each depth, and of none.
func TestTextWrite(t *testing.T) {
	for _, c := range []struct {
		l           []api.Time
		text, bytes string
	}{
		{nil, "{}", "\x00"},
		{list(), "{}", "\x00"},
		{list(at(0)), "{0}", "\x01\x00\x00"},
		{list(at(most)), "{1048576}", "\x01\x00\x80\x80\x40"},
		{list(at(0, 3), at(1, 2)), "{0.3 1.2}", "\x02\x01\x00\x03\x01\x01\x02"},
		{list(at(0, 0, 300), at(0, 1, 0)), "{0.0.300 0.1.0}", "\x02\x02\x00\x00\xAC\x02\x02\x00\x01\x00"},
		{list(at(1, 2, 3, 4)), "{1.2.3.4}", "\x01\x03\x01\x02\x03\x04"},
		{list(at(0, 0, 0, 1), at(0, 0, 1, 0), at(1, 0, 0, 0)), "{0.0.0.1 0.0.1.0 1.0.0.0}",
			"\x03\x03\x00\x00\x00\x01\x03\x00\x00\x01\x00\x03\x01\x00\x00\x00"},
	} {
		if got, e := Text(c.l); got != c.text || e != api.OK {
			t.Errorf("Text(%v) = %q, %d; want %q, 0", c.l, got, e, c.text)
		}
		if got, e := Write(c.l); got != c.bytes || e != api.OK {
			t.Errorf("Write(%v) = % X, %d; want % X, 0", c.l, got, e, c.bytes)
		}
	}
	for _, c := range noFrontiers() {
		if got, e := Text(c.l); got != "" || e != c.e {
			t.Errorf("Text of %d times = %q, %d; want nothing, %d", len(c.l), got, e, c.e)
		}
		if got, e := Write(c.l); got != "" || e != c.e {
			t.Errorf("Write of %d times = % X, %d; want nothing, %d", len(c.l), got, e, c.e)
		}
	}
}

// written are the bytes of a list that need not be a frontier.
func written(n uint64, l []api.Time) string {
	s := code.Num(n)
	for _, t := range l {
		part, _ := stamp.Write(t)
		s += part
	}
	return s
}

// Promise 6.3: Text and Write are made of the Text and the encoding of each time.
func TestTextWriteParts(t *testing.T) {
	for _, l := range goodFrontiers() {
		parts := []string{}
		for _, x := range l {
			part, _ := stamp.Text(x)
			parts = append(parts, part)
		}
		want := "{" + strings.Join(parts, " ") + "}"
		if got, e := Text(l); got != want || e != api.OK {
			t.Errorf("Text(%v) = %q, %d; want %q, 0", l, got, e, want)
		}
		want = written(uint64(len(l)), l)
		if got, e := Write(l); got != want || e != api.OK {
			t.Errorf("Write(%v) = % X, %d; want % X, 0", l, got, e, want)
		}
	}
}

// checkRead reads one frontier, and holds it, the reader's error and what is left against what they should be.
func checkRead(t *testing.T, s string, want []api.Time, e api.Errno, left int) {
	t.Helper()
	r := code.New(s)
	if got := Read(r); !slices.Equal(got, want) || r.Err() != e || r.Left() != left {
		t.Errorf("Read of % X = %v with error %d and %d left; want %v, %d, %d", s, got, r.Err(), r.Left(), want, e, left)
	}
}

// Promise 6.3: Read of frontiers of each depth and of none, ahead of nothing and of other bytes.
func TestRead(t *testing.T) {
	for _, l := range goodFrontiers() {
		for _, tail := range []string{"", "\x00", "\x80", "\x80\x00", "\x05abc"} {
			checkRead(t, written(uint64(len(l)), l)+tail, l, api.OK, len(tail))
		}
	}
	r := code.New("\x02\x01\x00\x03\x01\x01\x02\x00\x01\x00\x05")
	for _, want := range [][]api.Time{list(at(0, 3), at(1, 2)), nil, list(at(5))} {
		if got := Read(r); !slices.Equal(got, want) || r.Err() != api.OK {
			t.Errorf("Read = %v with error %d; want %v", got, r.Err(), want)
		}
	}
	if e := r.End(); e != api.OK {
		t.Errorf("End = %d", e)
	}
}

// Promise 6.3: Read of bytes that are cut off anywhere.
func TestReadShort(t *testing.T) {
	for _, l := range [][]api.Time{nil, list(at(300)), list(at(0, 3), at(1, 2)), list(at(0, 0, most), at(300, 1, 0)), stairs(64, 3, 300)} {
		s := written(uint64(len(l)), l)
		for n := range len(s) {
			r := code.New(s[:n])
			if got := Read(r); len(got) != 0 || r.Err() != api.ErrShort {
				t.Errorf("Read of % X = %v with error %d", s[:n], got, r.Err())
			}
		}
	}
	checkRead(t, "\x03\x01\x00\x03\x01\x01\x02", nil, api.ErrShort, 0)
	// Bytes that end are told ahead of times that are no frontier.
	checkRead(t, "\x03\x00\x05\x00\x05", nil, api.ErrShort, 0)
	checkRead(t, "\x03\x00\x05\x01\x05\x05", nil, api.ErrShort, 0)
}

// Promise 6.3: Read of more than 64 times, whose number alone is read, though as many of them may follow.
func TestReadLong(t *testing.T) {
	for _, n := range []uint64{65, 66, 127, 128, 4096, 1 << 32, 1<<32 + 1, 1 << 63, math.MaxUint64} {
		checkRead(t, code.Num(n), nil, api.ErrRange, 0)
		checkRead(t, code.Num(n)+"\x00\x05", nil, api.ErrRange, 2)
	}
	for depth := 1; depth <= 3; depth++ {
		l := stairs(65, depth, 1)
		checkRead(t, written(65, l), nil, api.ErrRange, len(written(65, l))-1)
		// Of 65 times of which 64 are told, one is left.
		checkRead(t, written(64, l), l[:64], api.OK, len(written(1, l[64:]))-1)
	}
	checkRead(t, written(65, repeat(65, at(5))), nil, api.ErrRange, 130)
}

// Promise 6.3: Read of times that are valid each but no frontier: what Check finds wrong; they are consumed.
func TestReadNoFrontier(t *testing.T) {
	for _, tail := range []string{"", "\x00abc"} {
		for _, l := range notFrontiers() {
			checkRead(t, written(uint64(len(l)), l)+tail, nil, api.ErrField, len(tail))
		}
		for _, l := range [][]api.Time{
			list(at(0), at(0, 0)), list(at(3, 1), at(4)), list(at(4), at(4), at(0, 0, 0)),
			append(repeat(63, at(0)), at(0, 0)), append(list(at(1, 2, 3, 4)), repeat(63, at(0))...),
		} {
			checkRead(t, written(uint64(len(l)), l)+tail, nil, api.ErrDepth, len(tail))
		}
	}
}

// Promise 6.3: Read of bytes of which the number, or one of the times, is no integer's or beyond its bound.
func TestReadBad(t *testing.T) {
	for _, head := range []string{"", "\x02", "\x02\x01", "\x02\x01\x00\x03", "\x02\x01\x00\x03\x01\x01"} {
		for _, wrong := range []string{"\x80\x00", "\x81\x80\x00", strings.Repeat("\xFF", 9) + "\x02"} {
			checkRead(t, head+wrong, nil, api.ErrField, len(wrong))
		}
	}
	tail := "\x01\x01\x01"
	for _, s := range []string{"\x02\x04", "\x02\x01\x00\x03\x04", "\x02\x01" + code.Num(most+1), "\x02\x01\x00" + code.Num(most+1),
		"\x02\x01\x00\x03\x01" + code.Num(math.MaxUint64), "\x02\x01\x00\x03\x01\x01" + code.Num(1<<32)} {
		checkRead(t, s+tail, nil, api.ErrRange, len(tail))
	}
}

// Promise 6.3: Read from a reader that has an error already reads nothing, and the error stays.
func TestReadFailed(t *testing.T) {
	for _, s := range []string{"", "\x00", "\x01\x00\x05", "\x02\x00\x05\x00\x05", "\x41", "\x02\x01\x00\x03\x01\x01\x02"} {
		for _, e := range []api.Errno{api.ErrSum, api.ErrShort, api.ErrTerm} {
			r := code.New(s)
			r.Fail(e)
			if got := Read(r); len(got) != 0 || r.Err() != e || r.Left() != len(s) {
				t.Errorf("Read of % X = %v with error %d and %d left", s, got, r.Err(), r.Left())
			}
		}
	}
}

// Promise 6.4: a list holds the same times as its Make.
func TestMakeHoldsTheSame(t *testing.T) {
	for depth, n := range []int{4, 3, 3, 2} {
		asked := append(fewTimes(depth), fewTimes((depth+1)%4)...)
		for _, l := range lists(fewTimes(depth), n) {
			least, e := Make(l)
			if e != api.OK {
				t.Fatalf("Make(%v): error %d", l, e)
			}
			for _, x := range asked {
				if got := Holds(least, x); got != Holds(l, x) || got != holds(l, x) {
					t.Errorf("%v and %v hold different times: %v", l, least, x)
				}
			}
			if !LE(l, least) || !LE(least, l) {
				t.Errorf("%v and %v are not both LE each other", l, least)
			}
		}
	}
}

// Promise 6.4: LE is reflexive and antisymmetric, and a frontier that is LE another one holds all that this one holds, and no other one does.
func TestOrder(t *testing.T) {
	for depth := range 4 {
		asked := fewTimes(depth)
		l := frontiers(asked)
		for _, a := range l {
			if !LE(a, a) {
				t.Errorf("%v is not LE itself", a)
			}
			for _, b := range l {
				if LE(a, b) && LE(b, a) && !slices.Equal(a, b) {
					t.Errorf("%v and %v are LE each other", a, b)
				}
				all := true
				for _, x := range asked {
					all = all && (Holds(a, x) || !Holds(b, x))
				}
				if LE(a, b) != all {
					t.Errorf("LE(%v, %v) = %v", a, b, LE(a, b))
				}
			}
		}
	}
}

// Promise 6.4: LE is transitive.
func TestOrderTransitive(t *testing.T) {
	for depth := range 3 {
		l := frontiers(fewTimes(depth))
		for _, a := range l {
			for _, b := range l {
				if !LE(a, b) {
					continue
				}
				for _, c := range l {
					if LE(b, c) && !LE(a, c) {
						t.Errorf("LE is not transitive: %v, %v, %v", a, b, c)
					}
				}
			}
		}
	}
}

// Promise 6.4: Meet holds what at least one of both holds, and Join what both hold; both are frontiers.
func TestMeetJoinHold(t *testing.T) {
	for depth := range 4 {
		asked := append(fewTimes(depth), fewTimes((depth+1)%4)...)
		l := frontiers(fewTimes(depth))
		for _, a := range l {
			for _, b := range l {
				meet, e := Meet(a, b)
				join, f := Join(a, b)
				if e != api.OK || f != api.OK || Check(meet) != api.OK || Check(join) != api.OK {
					t.Fatalf("of %v and %v, Meet is %v, %d and Join %v, %d", a, b, meet, e, join, f)
				}
				for _, x := range asked {
					if Holds(meet, x) != (Holds(a, x) || Holds(b, x)) || Holds(join, x) != (Holds(a, x) && Holds(b, x)) {
						t.Errorf("of %v and %v, Meet is %v and Join %v: %v", a, b, meet, join, x)
					}
				}
			}
		}
	}
}

// Rule R4: no argument is changed, and nothing that stands behind its end.
func TestArgumentsStay(t *testing.T) {
	a := append(stairs(30, 1, 3), at(9, 9), raw(-1, 1))
	b := append(stairs(20, 1, 5), at(8, 8), raw(-1, 1))
	unsorted := list(at(1, 2), at(0, 3), at(1, 3), at(0, 3), at(0, 0), raw(4, 1))
	all := [][]api.Time{a, b, unsorted}
	was := [][]api.Time{slices.Clone(a), slices.Clone(b), slices.Clone(unsorted)}
	for _, l := range all {
		for _, k := range all {
			// The last two stand behind the end, where a call that appends would write.
			x, y := l[:len(l)-2], k[:len(k)-2]
			Make(x)
			Check(x)
			Holds(x, y[0])
			LE(x, y)
			Meet(x, y)
			Join(x, y)
			Text(x)
			Write(x)
		}
	}
	for i, l := range all {
		if !slices.Equal(l, was[i]) {
			t.Errorf("%v has become %v", was[i], l)
		}
	}
}

// Rule R4: results share no memory with arguments or with each other.
func TestResultsAreNew(t *testing.T) {
	one := list(at(0, 3), at(1, 2))
	for name, f := range map[string]func() []api.Time{
		"Make":         func() []api.Time { l, _ := Make(one); return l },
		"Meet":         func() []api.Time { l, _ := Meet(one, nil); return l },
		"Meet of none": func() []api.Time { l, _ := Meet(nil, one); return l },
		"Meet of one":  func() []api.Time { l, _ := Meet(one, one); return l },
		"Join":         func() []api.Time { l, _ := Join(one, one); return l },
	} {
		first, second := f(), f()
		for i := range first {
			first[i] = at(most, most, most)
		}
		_ = append(second, at(77))
		if third := f(); !slices.Equal(second, one) || !slices.Equal(third, one) || !slices.Equal(one, list(at(0, 3), at(1, 2))) {
			t.Errorf("%s shares memory: %v, %v, %v", name, second, third, one)
		}
	}
}
