package multi

import (
	"math"
	"math/big"
	"slices"
	"strings"
	"testing"

	"watershed/api"
	"watershed/chain"
	"watershed/code"
	"watershed/stamp"
)

// The greatest epoch and round, and the greatest number.
const (
	most = api.MaxCount
	far  = 1 << 40
)

// at is a time with this epoch and these rounds.
func at(epoch uint32, rounds ...uint32) api.Time {
	t := api.Time{Epoch: epoch, Depth: len(rounds)}
	copy(t.Loop[:], rounds)
	return t
}

// raw is a time of any kind, valid or not.
func raw(depth int, epoch uint32, loop ...uint32) api.Time {
	t := at(epoch, loop...)
	t.Depth = depth
	return t
}

// list are times in a list.
func list(l ...api.Time) []api.Time { return l }

// wrongTime is what is no time, and what is wrong with it.
type wrongTime struct {
	t api.Time
	e api.Errno
}

func wrongTimes() []wrongTime {
	return []wrongTime{
		{raw(-1, 0), api.ErrDepth},
		{raw(4, most+1, 1, 2, 3), api.ErrDepth},
		{raw(math.MinInt, 0), api.ErrDepth},
		{raw(math.MaxInt, 0), api.ErrDepth},
		{raw(1<<32, 0), api.ErrDepth},
		{raw(0, most+1), api.ErrRange},
		{raw(3, math.MaxUint32, 1, 2, 3), api.ErrRange},
		{raw(2, 3, 1, most+1), api.ErrRange},
		{raw(1, 3, 1, 0, 1<<31), api.ErrRange},
		{raw(0, 3, 1), api.ErrField},
		{raw(1, 3, 1, 0, 1), api.ErrField},
		{raw(2, 3, 1, 1, 1), api.ErrField},
	}
}

// edge is a time of a depth with this epoch, this last round and zeros between them; at the depth 0 there is the epoch alone.
func edge(depth int, epoch, last uint32) api.Time {
	t := api.Time{Epoch: epoch, Depth: depth}
	if depth > 0 {
		t.Loop[depth-1] = last
	}
	return t
}

// stairs are so many times of a depth from 1 on, none of which is less than or equal to another one, in order.
func stairs(n, depth int) []api.Time {
	var l []api.Time
	for i := range n {
		l = append(l, edge(depth, uint32(i), uint32(n-1-i)))
	}
	return l
}

// places are some times of a depth, in order, of which some are less than others and some are not.
func places(depth int) []api.Time {
	if depth == 0 {
		return list(at(0), at(1), at(300), at(most))
	}
	return list(edge(depth, 0, most), edge(depth, 1, 2), edge(depth, 1, 300), edge(depth, most, 0))
}

// model is a Multi as the chapter defines it: what was added, one by one, and the remembered frontier.
type model struct {
	added []Pair
	last  []api.Time
}

// number is the sum of what was added to a time.
func (m *model) number(t api.Time) int64 {
	sum := int64(0)
	for _, p := range m.added {
		if p.T == t {
			sum += p.N
		}
	}
	return sum
}

// all are those of some times, which are in order, whose number is not 0.
func (m *model) all(among []api.Time) []Pair {
	var l []Pair
	for _, t := range among {
		if n := m.number(t); n != 0 {
			l = append(l, Pair{t, n})
		}
	}
	return l
}

// below tells by the numbers themselves whether one of two times of one depth is less than or equal to the other one.
func below(a, b api.Time) bool {
	return a.Epoch <= b.Epoch && a.Loop[0] <= b.Loop[0] && a.Loop[1] <= b.Loop[1] && a.Loop[2] <= b.Loop[2]
}

// frontier are those of some times, which are in order, that are present and above no other present one.
func (m *model) frontier(among []api.Time) []api.Time {
	var l []api.Time
	for _, t := range among {
		isLesser := func(x api.Time) bool { return x != t && below(x, t) && m.number(x) > 0 }
		if m.number(t) > 0 && !slices.ContainsFunc(among, isLesser) {
			l = append(l, t)
		}
	}
	return l
}

// moves are the times that left the frontier since it was remembered last, and those that came to it.
func (m *model) moves(among []api.Time) (gone, come []api.Time) {
	now := m.frontier(among)
	for _, t := range among {
		was, is := slices.Contains(m.last, t), slices.Contains(now, t)
		if was && !is {
			gone = append(gone, t)
		}
		if is && !was {
			come = append(come, t)
		}
	}
	m.last = now
	return gone, come
}

// made is a Multi of a depth to which these were added.
func made(t *testing.T, depth int, l ...Pair) *Multi {
	t.Helper()
	m, e := New(depth)
	if e != api.OK {
		t.Fatalf("New(%d): error %d", depth, e)
	}
	add(t, m, l...)
	return m
}

// add adds some, none of which may be refused.
func add(t *testing.T, m *Multi, l ...Pair) {
	t.Helper()
	for _, p := range l {
		if e := m.Add(p.T, p.N); e != api.OK {
			t.Fatalf("Add(%v, %d): error %d", p.T, p.N, e)
		}
	}
}

// each are times with one number.
func each(n int64, times []api.Time) []Pair {
	var l []Pair
	for _, x := range times {
		l = append(l, Pair{x, n})
	}
	return l
}

// written are the bytes of a depth, of a number of pairs, and of pairs.
func written(depth, n uint64, l []Pair) string {
	parts := []string{code.Num(depth), code.Num(n)}
	for _, p := range l {
		x, _ := stamp.Write(p.T)
		parts = append(parts, x, code.Signed(p.N))
	}
	return strings.Join(parts, "")
}

// checkAll holds the numbers of a Multi, as All, Count and Bytes tell them, against what they should be.
func checkAll(t *testing.T, name string, m *Multi, depth int, want []Pair) {
	t.Helper()
	if got := m.All(); !slices.Equal(got, want) {
		t.Errorf("%s: All = %v; want %v", name, got, want)
	}
	for _, p := range want {
		if got := m.Count(p.T); got != p.N {
			t.Errorf("%s: Count(%v) = %d; want %d", name, p.T, got, p.N)
		}
	}
	if got, want := m.Bytes(), written(uint64(depth), uint64(len(want)), want); got != want {
		t.Errorf("%s: Bytes = % X; want % X", name, got, want)
	}
}

// checkFrontier holds the frontier against what it should be.
func checkFrontier(t *testing.T, name string, m *Multi, want []api.Time, e api.Errno) {
	t.Helper()
	if got, f := m.Frontier(); !slices.Equal(got, want) || f != e {
		t.Errorf("%s: Frontier = %v, %d; want %v, %d", name, got, f, want, e)
	}
}

// checkMoves calls Moves, and holds what it answers against what it should be.
func checkMoves(t *testing.T, name string, m *Multi, gone, come []api.Time, e api.Errno) {
	t.Helper()
	a, b, f := m.Moves()
	if !slices.Equal(a, gone) || !slices.Equal(b, come) || f != e {
		t.Errorf("%s: Moves = %v, %v, %d; want %v, %v, %d", name, a, b, f, gone, come, e)
	}
}

// Promise 7.1: New of each depth has no numbers and remembers no times.
func TestNew(t *testing.T) {
	for depth := range 4 {
		m := made(t, depth)
		checkAll(t, "New", m, depth, nil)
		checkFrontier(t, "New", m, nil, api.OK)
		checkMoves(t, "New", m, nil, nil, api.OK)
		for _, x := range places(depth) {
			if n := m.Count(x); n != 0 {
				t.Errorf("Count(%v) = %d in an empty Multi", x, n)
			}
		}
		add(t, m, each(1, places(depth))...)
		want := places(depth)[:1]
		if depth > 0 {
			want = list(places(depth)[0], places(depth)[1], places(depth)[3])
		}
		checkMoves(t, "New", m, nil, want, api.OK)
	}
}

// Promise 7.1: New of a depth that is none.
func TestNewDepth(t *testing.T) {
	for _, depth := range []int{-1, 4, 5, -4, math.MinInt, math.MaxInt, 1 << 32, 1<<32 + 1} {
		if m, e := New(depth); m != nil || e != api.ErrDepth {
			t.Errorf("New(%d) = %v, %d", depth, m, e)
		}
	}
}

// Promise 7.1: Add adds to the number of one time, and to no other one.
func TestAdd(t *testing.T) {
	for depth := range 4 {
		x := places(depth)
		m := made(t, depth)
		for _, c := range []struct {
			i    int
			n    int64
			want []int64
		}{
			{0, 1, []int64{1, 0, 0, 0}},
			{0, 1, []int64{2, 0, 0, 0}},
			{1, -3, []int64{2, -3, 0, 0}},
			{1, 0, []int64{2, -3, 0, 0}},
			{2, 0, []int64{2, -3, 0, 0}},
			{3, far, []int64{2, -3, 0, far}},
			{1, 3, []int64{2, 0, 0, far}},
			{1, 1, []int64{2, 1, 0, far}},
			{1, -5, []int64{2, -4, 0, far}},
			{1, 9, []int64{2, 5, 0, far}},
			{3, -2 * far, []int64{2, 5, 0, -far}},
			{2, -far, []int64{2, 5, -far, -far}},
			{2, 2 * far, []int64{2, 5, far, -far}},
			{0, -2, []int64{0, 5, far, -far}},
			{2, -far, []int64{0, 5, 0, -far}},
			{1, -5, []int64{0, 0, 0, -far}},
			{3, far, []int64{0, 0, 0, 0}},
			{3, far, []int64{0, 0, 0, far}},
		} {
			add(t, m, Pair{x[c.i], c.n})
			var want []Pair
			for i, n := range c.want {
				if got := m.Count(x[i]); got != n {
					t.Errorf("Count(%v) = %d; want %d", x[i], got, n)
				}
				if n != 0 {
					want = append(want, Pair{x[i], n})
				}
			}
			checkAll(t, "Add", m, depth, want)
		}
	}
}

// Promise 7.1: Add answers OK for just those sums that are from -2^40 to 2^40, though a sum may pass 64 bits; otherwise the number stays.
func TestAddOver(t *testing.T) {
	olds := []int64{-far, -far + 1, -1, 0, 1, far - 1, far}
	ns := []int64{0, 1, 2, far - 1, far, far + 1, 2*far - 1, 2 * far, 2*far + 1,
		1 << 62, math.MaxInt64 - far, math.MaxInt64 - far + 1, math.MaxInt64 - 1, math.MaxInt64}
	for _, n := range slices.Clone(ns) {
		ns = append(ns, -n, -n-1)
	}
	for _, old := range olds {
		for _, n := range ns {
			m := made(t, 1, Pair{at(1, 2), old}, Pair{at(1, 3), 7})
			sum := new(big.Int).Add(big.NewInt(old), big.NewInt(n))
			want, after := api.ErrOver, old
			if sum.CmpAbs(big.NewInt(far)) <= 0 {
				want, after = api.OK, sum.Int64()
			}
			if e := m.Add(at(1, 2), n); e != want || m.Count(at(1, 2)) != after || m.Count(at(1, 3)) != 7 {
				t.Errorf("Add of %d to %d = %d, and then the number is %d; want %d, %d", n, old, e, m.Count(at(1, 2)), want, after)
			}
		}
	}
}

// crowd are 4096 times of a depth, in order, all above 0.
func crowd(depth int) []api.Time {
	var l []api.Time
	for i := range uint32(4096) {
		l = append(l, edge(depth, i+1, 3*i))
	}
	return l
}

// Promise 7.1: 4096 times have a number other than 0, above it or below it, and no further one gets one, till one of them has none any more.
func TestAddFull(t *testing.T) {
	for depth := range 4 {
		times := crowd(depth)
		for _, sign := range []int64{1, -1} {
			m := made(t, depth, each(2*sign, times)...)
			more := []api.Time{edge(depth, 0, 0), edge(depth, 5000, 0), edge(depth, most, most)}
			for _, x := range more {
				for _, n := range []int64{1, -1, far, -far} {
					if e := m.Add(x, n); e != api.ErrFull {
						t.Errorf("Add of a time above 4096 = %d", e)
					}
				}
				add(t, m, Pair{x, 0})
				if n := m.Count(x); n != 0 {
					t.Errorf("Count of a time above 4096 = %d", n)
				}
			}
			checkAll(t, "full", m, depth, each(2*sign, times))
			// Numbers that are there change; one that becomes 0 leaves room for one other time.
			add(t, m, Pair{times[0], 1}, Pair{times[0], -1}, Pair{times[0], -4 * sign}, Pair{times[0], 4 * sign})
			checkAll(t, "full", m, depth, each(2*sign, times))
			add(t, m, Pair{times[4095], -2 * sign}, Pair{more[1], far})
			for _, x := range []api.Time{times[4095], more[0], more[2]} {
				if e := m.Add(x, 1); e != api.ErrFull {
					t.Errorf("Add of a time to 4096 others = %d", e)
				}
			}
			checkAll(t, "full", m, depth, append(each(2*sign, times[:4095]), Pair{more[1], far}))
		}
	}
}

// full is a Multi of a depth in which 4096 times have a number.
func full(t *testing.T, depth int) *Multi {
	t.Helper()
	return made(t, depth, each(1, crowd(depth))...)
}

// Promise 7.1: what Add finds wrong first.
func TestAddErrors(t *testing.T) {
	for depth := range 4 {
		some := made(t, depth, Pair{edge(depth, 1, 1), 5})
		for _, m := range []*Multi{made(t, depth), some, full(t, depth)} {
			// A number that is too great is told behind whatever is wrong with the time.
			for _, n := range []int64{0, 1, -1, far, far + 1, -far - 1, math.MaxInt64, math.MinInt64} {
				for _, w := range wrongTimes() {
					if e := m.Add(w.t, n); e != w.e {
						t.Errorf("Add(%v, %d) = %d; want %d", w.t, n, e, w.e)
					}
				}
				for other := range 4 {
					if other == depth {
						continue
					}
					if e := m.Add(edge(other, 1, 1), n); e != api.ErrDepth {
						t.Errorf("Add of the depth %d to the depth %d = %d", other, depth, e)
					}
				}
			}
			// Too great a number is told ahead of too many times.
			for _, n := range []int64{far + 1, -far - 1, math.MaxInt64, math.MinInt64} {
				if e := m.Add(edge(depth, 5000, 1), n); e != api.ErrOver {
					t.Errorf("Add(%d) = %d; want %d", n, e, api.ErrOver)
				}
			}
		}
	}
	m := made(t, 0)
	if e := m.Add(at(1, 0), 1); e != api.ErrDepth {
		t.Errorf("Add of a time of the depth 1 to the depth 0 = %d", e)
	}
}

// Promise 7.1, rule R2: an Add that is refused changes neither a number nor the remembered frontier.
func TestAddRefused(t *testing.T) {
	for depth := range 4 {
		x := places(depth)
		m := made(t, depth, Pair{x[1], 5}, Pair{x[2], -5}, Pair{x[3], far})
		last, _ := m.Frontier()
		checkMoves(t, "ahead", m, nil, last, api.OK)
		refused := func(y api.Time, n int64) {
			t.Helper()
			if e := m.Add(y, n); e == api.OK {
				t.Errorf("Add(%v, %d) was not refused", y, n)
			}
			checkAll(t, "refused", m, depth, []Pair{{x[1], 5}, {x[2], -5}, {x[3], far}})
			checkFrontier(t, "refused", m, last, api.OK)
			checkMoves(t, "refused", m, nil, nil, api.OK)
		}
		for _, w := range wrongTimes() {
			refused(w.t, 1)
			refused(w.t, -1)
		}
		for other := range 4 {
			if other != depth {
				refused(edge(other, 1, 1), 1)
			}
		}
		refused(x[0], far+1)
		refused(x[0], -far-1)
		refused(x[1], far-4)
		refused(x[2], -far+4)
		refused(x[3], 1)
		refused(x[3], math.MaxInt64)
		refused(x[3], -2*far-1)
		refused(x[2], math.MinInt64)
	}
}

// Promise 7.2: Count of times that have no number, that are of another depth, or that are none.
func TestCount(t *testing.T) {
	for depth := range 4 {
		m := made(t, depth, each(3, places(depth))...)
		for _, x := range []api.Time{edge(depth, 2, 7), edge(depth, 301, 0), edge(depth, most-1, most)} {
			if n := m.Count(x); n != 0 {
				t.Errorf("Count(%v) = %d", x, n)
			}
		}
		for _, w := range wrongTimes() {
			if n := m.Count(w.t); n != 0 {
				t.Errorf("Count(%v) = %d", w.t, n)
			}
		}
		for _, x := range places(depth) {
			if n := m.Count(x); n != 3 {
				t.Errorf("Count(%v) = %d; want 3", x, n)
			}
			// The same numbers at another depth, or with something behind the depth.
			for other := range 4 {
				if x.Depth = other; other != depth && m.Count(x) != 0 {
					t.Errorf("Count(%v) = %d", x, m.Count(x))
				}
			}
			x.Depth = depth
			for i := depth; i < api.MaxDepth; i++ {
				y := x
				if y.Loop[i] = 1; m.Count(y) != 0 {
					t.Errorf("Count(%v) = %d", y, m.Count(y))
				}
			}
		}
	}
}

// Promise 7.2: All tells the times in the total order, in whatever order they were added.
func TestAll(t *testing.T) {
	for _, want := range [][]Pair{
		{{at(9), 1}, {at(10), -1}, {at(100), far}, {at(most), -far}},
		{{at(0, 9), 1}, {at(0, 10), 2}, {at(9, 0), -3}, {at(10, 0), 4}},
		{{at(0, 0, 1), 1}, {at(0, 1, 0), -1}, {at(0, 1, most), 1}, {at(0, 2, 0), 7}, {at(1, 0, 0), 1}},
		{{at(1, 2, 3, 4), -far}, {at(1, 2, 3, 5), 1}, {at(1, 2, 4, 0), 2}, {at(1, 3, 0, 0), 3}, {at(2, 0, 0, 0), far}},
	} {
		depth := want[0].T.Depth
		for first := range want {
			turned := slices.Concat(want[first:], want[:first])
			checkAll(t, "All, turned", made(t, depth, turned...), depth, want)
			slices.Reverse(turned)
			checkAll(t, "All, reversed", made(t, depth, turned...), depth, want)
		}
	}
	for depth := range 4 {
		back := each(2, crowd(depth))
		slices.Reverse(back)
		checkAll(t, "All of 4096", made(t, depth, back...), depth, each(2, crowd(depth)))
	}
}

// Promise 7.2: Frontier is the frontier of the times whose number is greater than 0.
func TestFrontier(t *testing.T) {
	for _, c := range []struct {
		l    []Pair
		want []api.Time
	}{
		{[]Pair{{at(1), 1}, {at(0), 2}}, list(at(0))},
		{[]Pair{{at(1), 1}, {at(0), 2}, {at(0), -2}}, list(at(1))},
		{[]Pair{{at(1), 1}, {at(0), 2}, {at(0), -3}}, list(at(1))},
		{[]Pair{{at(1), 1}, {at(0), 2}, {at(0), -1}}, list(at(0))},
		{[]Pair{{at(1), 1}, {at(1), -1}}, nil},
		{[]Pair{{at(1), -1}}, nil},
		{[]Pair{{at(1), -far}, {at(most), far}}, list(at(most))},
		{[]Pair{{at(0), 1}}, list(at(0))},
		{[]Pair{{at(10), 1}, {at(9), 1}, {at(100), 1}}, list(at(9))},
		{[]Pair{{at(1, 3), 1}, {at(1, 2), 1}, {at(0, 3), 1}}, list(at(0, 3), at(1, 2))},
		{[]Pair{{at(1, 3), 1}, {at(1, 2), -1}, {at(0, 3), -1}}, list(at(1, 3))},
		{[]Pair{{at(3, 0), 1}, {at(2, 1), 1}, {at(1, 2), 1}, {at(0, 3), 1}}, list(at(0, 3), at(1, 2), at(2, 1), at(3, 0))},
		{[]Pair{{at(3, 0), 1}, {at(2, 1), 1}, {at(1, 2), 1}, {at(0, 3), 1}, {at(0, 0), -1}}, list(at(0, 3), at(1, 2), at(2, 1), at(3, 0))},
		{[]Pair{{at(3, 0), 1}, {at(2, 1), 1}, {at(1, 2), 1}, {at(0, 3), 1}, {at(0, 0), 1}}, list(at(0, 0))},
		{[]Pair{{at(1, 0, 0), 1}, {at(0, 1, 0), 1}, {at(0, 0, 1), 1}}, list(at(0, 0, 1), at(0, 1, 0), at(1, 0, 0))},
		{[]Pair{{at(1, 2, 4, 3), 1}, {at(1, 2, 3, 4), 9}, {at(1, 2, 4, 4), 1}}, list(at(1, 2, 3, 4), at(1, 2, 4, 3))},
	} {
		m := made(t, c.l[0].T.Depth, c.l...)
		checkFrontier(t, "Frontier", m, c.want, api.OK)
		checkFrontier(t, "Frontier once more", m, c.want, api.OK)
	}
}

// Promise 7.2: a frontier of 64 times, and of 65, and of 4096 present times.
func TestFrontierLong(t *testing.T) {
	for depth := 1; depth <= 3; depth++ {
		m := made(t, depth, each(1, stairs(64, depth))...)
		checkFrontier(t, "64", m, stairs(64, depth), api.OK)
		// Two times more: the last one is above the one ahead of it as long as that is present.
		add(t, m, Pair{edge(depth, 64, 1), 1}, Pair{edge(depth, 65, 0), -1})
		checkFrontier(t, "64 and one above them", m, stairs(64, depth), api.OK)
		m = made(t, depth, each(1, stairs(65, depth))...)
		checkFrontier(t, "65", m, nil, api.ErrLong)
		add(t, m, Pair{stairs(65, depth)[30], -2})
		checkFrontier(t, "65 with one below 0", m, slices.Delete(stairs(65, depth), 30, 31), api.OK)
		add(t, m, Pair{stairs(65, depth)[30], 2})
		checkFrontier(t, "65", m, nil, api.ErrLong)
		add(t, m, Pair{edge(depth, 0, 0), 1})
		checkFrontier(t, "65 above one", m, list(edge(depth, 0, 0)), api.OK)
		m = made(t, depth, each(1, stairs(4096, depth))...)
		checkFrontier(t, "4096", m, nil, api.ErrLong)
	}
	for depth := range 4 {
		checkFrontier(t, "4096 above one another", full(t, depth), list(edge(depth, 1, 0)), api.OK)
	}
}

// Promise 7.2: Moves in the chapter's examples, called twice, and with times that come back.
func TestMoves(t *testing.T) {
	m := made(t, 0, Pair{at(1), 1}, Pair{at(0), 2})
	checkMoves(t, "example", m, nil, list(at(0)), api.OK)
	checkMoves(t, "twice", m, nil, nil, api.OK)
	add(t, m, Pair{at(0), -2})
	checkMoves(t, "example", m, list(at(0)), list(at(1)), api.OK)
	checkMoves(t, "twice", m, nil, nil, api.OK)
	// What changes in between and back again, or is not at the frontier, moves nothing.
	add(t, m, Pair{at(0), 1}, Pair{at(0), -1}, Pair{at(1), 4}, Pair{at(2), 4}, Pair{at(0), -7})
	checkMoves(t, "as before", m, nil, nil, api.OK)
	add(t, m, Pair{at(1), -5})
	checkMoves(t, "away", m, list(at(1)), list(at(2)), api.OK)
	add(t, m, Pair{at(1), 1})
	checkMoves(t, "and back", m, list(at(2)), list(at(1)), api.OK)
	add(t, m, Pair{at(1), -1}, Pair{at(2), -4})
	checkMoves(t, "to none", m, list(at(1)), nil, api.OK)
	checkMoves(t, "none", m, nil, nil, api.OK)
	add(t, m, Pair{at(0), 8})
	checkMoves(t, "from none", m, nil, list(at(0)), api.OK)

	m = made(t, 2, each(1, list(at(3, 0, 0), at(0, 0, 3), at(1, 1, 1), at(2, 2, 0)))...)
	checkMoves(t, "four", m, nil, list(at(0, 0, 3), at(1, 1, 1), at(2, 2, 0), at(3, 0, 0)), api.OK)
	add(t, m, Pair{at(3, 0, 0), -1}, Pair{at(0, 0, 3), -1}, Pair{at(2, 0, 1), 1}, Pair{at(0, 9, 0), 1}, Pair{at(0, 0, 9), 1})
	checkMoves(t, "some", m, list(at(0, 0, 3), at(3, 0, 0)), list(at(0, 0, 9), at(0, 9, 0), at(2, 0, 1)), api.OK)
	add(t, m, Pair{at(0, 0, 0), 1})
	checkMoves(t, "all", m, list(at(0, 0, 9), at(0, 9, 0), at(1, 1, 1), at(2, 0, 1), at(2, 2, 0)), list(at(0, 0, 0)), api.OK)
}

// Promise 7.2: Moves answers the error of Frontier, and remembers what it has remembered.
func TestMovesLong(t *testing.T) {
	for depth := 1; depth <= 3; depth++ {
		l := stairs(65, depth)
		m := made(t, depth, each(1, l)...)
		checkMoves(t, "65 from none", m, nil, nil, api.ErrLong)
		add(t, m, Pair{l[0], -1})
		checkMoves(t, "64 from none", m, nil, l[1:], api.OK)
		add(t, m, Pair{l[0], 1})
		for range 2 {
			checkMoves(t, "65 from 64", m, nil, nil, api.ErrLong)
			checkAll(t, "65", m, depth, each(1, l))
		}
		add(t, m, Pair{l[64], -1})
		checkMoves(t, "64 from others", m, l[64:], l[:1], api.OK)
		checkMoves(t, "twice", m, nil, nil, api.OK)
		add(t, m, Pair{l[64], 1}, Pair{edge(depth, 0, 0), 1})
		checkMoves(t, "one from 64", m, l[:64], list(edge(depth, 0, 0)), api.OK)
	}
}

// Promise 7.2: a Copy has the same numbers and remembers the same frontier, and neither of both follows the other one.
func TestCopy(t *testing.T) {
	for depth := range 4 {
		x := places(depth)
		m := made(t, depth, Pair{x[1], 2}, Pair{x[2], -far})
		checkMoves(t, "ahead", m, nil, x[1:2], api.OK)
		add(t, m, Pair{x[1], -2}, Pair{x[3], 4})
		c := m.Copy()
		// The original moves on: the copy stays.
		add(t, m, Pair{x[1], 5}, Pair{x[2], far}, Pair{x[3], -4})
		checkMoves(t, "original", m, nil, nil, api.OK)
		checkAll(t, "copy", c, depth, []Pair{{x[2], -far}, {x[3], 4}})
		checkFrontier(t, "copy", c, x[3:], api.OK)
		// A copy of the copy moves on: the copy and the original stay.
		d := c.Copy()
		checkMoves(t, "copy's copy", d, x[1:2], x[3:], api.OK)
		add(t, d, Pair{x[3], -5})
		checkMoves(t, "copy's copy", d, x[3:], nil, api.OK)
		checkAll(t, "original", m, depth, []Pair{{x[1], 5}})
		checkMoves(t, "original", m, nil, nil, api.OK)
		checkMoves(t, "copy", c, x[1:2], x[3:], api.OK)
		checkAll(t, "copy", c, depth, []Pair{{x[2], -far}, {x[3], 4}})
		if e := c.Add(edge((depth+1)%4, 0, 0), 1); e != api.ErrDepth {
			t.Errorf("Add of another depth to a copy = %d", e)
		}
	}
	checkAll(t, "copy of none", made(t, 3).Copy(), 3, nil)
	none := made(t, 1).Copy()
	add(t, none, Pair{at(1, 1), 1})
	checkMoves(t, "copy of none", none, nil, list(at(1, 1)), api.OK)
	if e := full(t, 2).Copy().Add(at(0, 0, 0), 1); e != api.ErrFull {
		t.Errorf("Add to a copy of 4096 times = %d", e)
	}
}

// byteCase is the depth and the numbers of a Multi, and its bytes.
type byteCase struct {
	depth int
	l     []Pair
	want  string
}

func byteCases() []byteCase {
	return []byteCase{
		{0, nil, "\x00\x00"},
		{3, nil, "\x03\x00"},
		{0, []Pair{{at(5), 1}}, "\x00\x01\x00\x05\x02"},
		{0, []Pair{{at(0), 2}, {at(1), -1}}, "\x00\x02\x00\x00\x04\x00\x01\x01"},
		{1, []Pair{{at(0, 300), -2}, {at(most, 0), 64}}, "\x01\x02\x01\x00\xAC\x02\x03\x01\x80\x80\x40\x00\x80\x01"},
		{2, []Pair{{at(1, 2, 3), far}}, "\x02\x01\x02\x01\x02\x03\x80\x80\x80\x80\x80\x40"},
		{3, []Pair{{at(1, 2, 3, 4), -far}}, "\x03\x01\x03\x01\x02\x03\x04\xFF\xFF\xFF\xFF\xFF\x3F"},
	}
}

// Promise 7.3: Bytes of each depth, of none, and of numbers at the bounds.
func TestBytes(t *testing.T) {
	for _, c := range byteCases() {
		m := made(t, c.depth, c.l...)
		for range 2 {
			if got := m.Bytes(); got != c.want {
				t.Errorf("Bytes of %v = % X; want % X", c.l, got, c.want)
			}
		}
		// What is remembered is not among the bytes.
		if m.Moves(); m.Bytes() != c.want {
			t.Errorf("Bytes of %v = % X after Moves; want % X", c.l, m.Bytes(), c.want)
		}
	}
}

// checkRead reads a Multi, and holds it against these numbers, and what is left against that.
func checkRead(t *testing.T, s string, depth int, want []Pair, left int) *Multi {
	t.Helper()
	r := code.New(s)
	m := Read(r)
	if m == nil || r.Err() != api.OK || r.Left() != left {
		t.Fatalf("Read of % X = %v with error %d and %d left; want %d left", s, m, r.Err(), r.Left(), left)
	}
	checkAll(t, "Read", m, depth, want)
	return m
}

// checkNone reads what is no Multi, and holds the reader's error and what is left against what they should be.
func checkNone(t *testing.T, s string, e api.Errno, left int) {
	t.Helper()
	r := code.New(s)
	if m := Read(r); m != nil || r.Err() != e || r.Left() != left {
		t.Errorf("Read of % X = %v with error %d and %d left; want nil, %d, %d", s, m, r.Err(), r.Left(), e, left)
	}
}

// Promise 7.3: Read of Bytes, ahead of nothing and of other bytes.
func TestRead(t *testing.T) {
	for _, c := range byteCases() {
		for _, tail := range []string{"", "\x00", "\x80", "\x80\x00", "\x05abc"} {
			checkRead(t, c.want+tail, c.depth, c.l, len(tail))
		}
	}
	for depth := range 4 {
		checkRead(t, full(t, depth).Bytes()+"\x07", depth, each(1, crowd(depth)), 1)
	}
	r := code.New("\x00\x01\x00\x05\x02" + "\x03\x00" + "\x00\x02\x00\x00\x04\x00\x01\x01")
	for _, want := range []int{1, 0, 2} {
		if m := Read(r); m == nil || len(m.All()) != want || r.Err() != api.OK {
			t.Fatalf("Read = %v with error %d; want %d times", m, r.Err(), want)
		}
	}
	if e := r.End(); e != api.OK {
		t.Errorf("End = %d", e)
	}
}

// Promise 7.3: a Multi that was read has its depth and its numbers, remembers no frontier, and goes on like any other one.
func TestReadGoesOn(t *testing.T) {
	for depth := range 4 {
		x := places(depth)
		m := made(t, depth, Pair{x[1], 2}, Pair{x[3], far}, Pair{x[2], -1})
		front, _ := m.Frontier()
		checkMoves(t, "ahead", m, nil, front, api.OK)
		got := checkRead(t, m.Bytes(), depth, []Pair{{x[1], 2}, {x[2], -1}, {x[3], far}}, 0)
		checkFrontier(t, "Read", got, front, api.OK)
		checkMoves(t, "Read", got, nil, front, api.OK)
		checkMoves(t, "Read, twice", got, nil, nil, api.OK)
		if e := got.Add(x[3], 1); e != api.ErrOver {
			t.Errorf("Add beyond 2^40 = %d", e)
		}
		if e := got.Add(edge((depth+1)%4, 1, 1), 1); e != api.ErrDepth {
			t.Errorf("Add of another depth = %d", e)
		}
		add(t, got, Pair{x[0], 1}, Pair{x[1], -2}, Pair{x[2], 3}, Pair{x[3], -far})
		checkAll(t, "Read", got, depth, []Pair{{x[0], 1}, {x[2], 2}})
		checkAll(t, "original", m, depth, []Pair{{x[1], 2}, {x[2], -1}, {x[3], far}})
		if e := checkRead(t, full(t, depth).Bytes(), depth, each(1, crowd(depth)), 0).Add(edge(depth, 0, 0), 1); e != api.ErrFull {
			t.Errorf("Add to 4096 times that were read = %d", e)
		}
	}
	none := checkRead(t, "\x01\x00", 1, nil, 0)
	add(t, none, Pair{at(1, 1), 1})
	checkMoves(t, "none", none, nil, list(at(1, 1)), api.OK)
	// 65 minimal times are numbers like any others, though they make no frontier.
	long := checkRead(t, made(t, 1, each(1, stairs(65, 1))...).Bytes(), 1, each(1, stairs(65, 1)), 0)
	checkFrontier(t, "65", long, nil, api.ErrLong)
}

// Promise 7.3: Read of bytes that are cut off anywhere.
func TestReadShort(t *testing.T) {
	for _, c := range byteCases() {
		for n := range len(c.want) {
			checkCut(t, c.want[:n])
		}
	}
	s := full(t, 1).Bytes()
	for _, n := range []int{0, 1, 2, 3, 100, len(s) / 2, len(s) - 1} {
		checkCut(t, s[:n])
	}
	// Bytes that end are told ahead of what is wrong with the pairs.
	for _, s := range []string{
		"\x00\x02\x01\x05\x05\x02",     // another depth
		"\x00\x02\x00\x05\x00",         // 0
		"\x00\x03\x00\x05\x02\x00\x05", // and the number of a time is missing
		"\x00\x03\x00\x05\x02\x00\x05\x02",
		"\x00\x03\x00\x05\x02\x00\x04\x02",
		"\x00\x02\x00\x05" + code.Signed(far+1),
	} {
		checkNone(t, s, api.ErrShort, 0)
	}
}

// checkCut reads bytes that are cut off.
func checkCut(t *testing.T, s string) {
	t.Helper()
	r := code.New(s)
	if m := Read(r); m != nil || r.Err() != api.ErrShort {
		t.Errorf("Read of % X = %v with error %d", s, m, r.Err())
	}
}

// Promise 7.3: Read of a depth above 3 or of more than 4096 elements, behind which nothing is read.
func TestReadRange(t *testing.T) {
	for _, n := range []uint64{4, 5, 127, 128, 1 << 32, 1<<32 + 1, 1 << 63, math.MaxUint64} {
		checkNone(t, code.Num(n), api.ErrRange, 0)
		checkNone(t, code.Num(n)+"\x01\x00\x05\x02", api.ErrRange, 4)
	}
	for depth := range uint64(4) {
		for _, n := range []uint64{4097, 4098, 8192, 1 << 20, 1 << 32, 1<<32 + 1, 1 << 63, math.MaxUint64} {
			checkNone(t, code.Num(depth)+code.Num(n), api.ErrRange, 0)
			checkNone(t, code.Num(depth)+code.Num(n)+"\x00\x05\x02", api.ErrRange, 3)
		}
	}
	more := append(each(1, crowd(1)), Pair{at(most, most), 1})
	s := written(1, 4097, more)
	checkNone(t, s, api.ErrRange, len(s)-3)
	// Of 4097 of which 4096 are told, one is left.
	s = written(1, 4096, more)
	checkRead(t, s, 1, more[:4096], len(s)-len(written(1, 4096, more[:4096])))
	// A time beyond its bounds.
	tail := "\x02\x02\x02"
	for _, s := range []string{"\x00\x01\x04", "\x00\x01\x00" + code.Num(most+1), "\x01\x02\x01\x00\x01\x02\x01\x05" + code.Num(most+1),
		"\x03\x01\x03\x00\x00\x00" + code.Num(math.MaxUint64), "\x00\x02\x00\x05\x02\x05"} {
		checkNone(t, s+tail, api.ErrRange, len(tail))
	}
}

// noMulti is a depth and pairs that are no Multi's, with times that are valid.
type noMulti struct {
	depth uint64
	l     []Pair
}

func noMultis() []noMulti {
	var out []noMulti
	for depth := range 4 {
		x, d := places(depth), uint64(depth)
		for _, n := range []int64{0, far + 1, -far - 1, 2 * far, 1 << 62, math.MaxInt64, math.MinInt64} {
			out = append(out, noMulti{d, []Pair{{x[0], n}}}, noMulti{d, []Pair{{x[0], n}, {x[1], 1}}}, noMulti{d, []Pair{{x[0], 1}, {x[1], n}}})
		}
		for other := range 4 {
			if y := edge(other, most, most); other != depth {
				out = append(out, noMulti{d, []Pair{{y, 1}}}, noMulti{d, []Pair{{y, 1}, {x[0], 1}}}, noMulti{d, []Pair{{x[0], 1}, {y, 1}}})
			}
		}
		out = append(out,
			noMulti{d, []Pair{{x[0], 1}, {x[0], 1}}},
			noMulti{d, []Pair{{x[0], 1}, {x[0], -1}}},
			noMulti{d, []Pair{{x[1], 1}, {x[0], 1}}},
			noMulti{d, []Pair{{x[0], 1}, {x[2], 1}, {x[1], 1}}},
			noMulti{d, []Pair{{x[0], 1}, {x[1], 1}, {x[0], 1}}},
			noMulti{d, []Pair{{x[0], 1}, {x[3], 1}, {x[3], 2}}},
			noMulti{d, append(each(1, crowd(depth)[:4095]), Pair{crowd(depth)[4094], 1})},
			noMulti{d, append(each(1, crowd(depth)[:4095]), Pair{crowd(depth)[4095], 0})},
			// More than one thing is wrong.
			noMulti{d, []Pair{{x[1], 0}, {x[0], far + 1}, {edge((depth+1)%4, 0, 0), 0}}},
		)
	}
	return out
}

// Promise 7.3: Read of pairs that are no Multi's: they are consumed, and the error is ErrField.
func TestReadField(t *testing.T) {
	for _, c := range noMultis() {
		s := written(c.depth, uint64(len(c.l)), c.l)
		for _, tail := range []string{"", "\x00abc"} {
			checkNone(t, s+tail, api.ErrField, len(tail))
		}
	}
	// An integer that is encoded in another way is found where it is, and not consumed.
	for _, head := range []string{"", "\x01", "\x01\x01", "\x01\x01\x01", "\x01\x01\x01\x00", "\x01\x01\x01\x00\x05", "\x00\x02\x00\x05\x00"} {
		for _, wrong := range []string{"\x80\x00", "\x81\x80\x00", strings.Repeat("\xFF", 9) + "\x02"} {
			checkNone(t, head+wrong, api.ErrField, len(wrong))
		}
	}
}

// Promise 7.3: Read from a reader that has an error already reads nothing, and the error stays.
func TestReadFailed(t *testing.T) {
	for _, s := range []string{"", "\x00\x00", "\x03\x00", "\x00\x01\x00\x05\x02", "\x04", "\x00\x01\x00\x05\x00"} {
		for _, e := range []api.Errno{api.ErrSum, api.ErrShort, api.ErrTerm} {
			r := code.New(s)
			r.Fail(e)
			if m := Read(r); m != nil || r.Err() != e || r.Left() != len(s) {
				t.Errorf("Read of % X = %v with error %d and %d left", s, m, r.Err(), r.Left())
			}
		}
	}
}

// sequences calls visit for all sequences of so many of the numbers below most.
func sequences(length, most int, visit func(l []int)) {
	l := make([]int, length)
	for {
		visit(l)
		i := 0
		for ; i < length; i++ {
			if l[i]++; l[i] < most {
				break
			}
			l[i] = 0
		}
		if i == length {
			return
		}
	}
}

// Promises 7.1 to 7.4: all short sequences of Add and Moves, held against the definition.
func TestSequences(t *testing.T) {
	numbers := []int64{-1, 1, 2}
	for depth := range 4 {
		x := places(depth)
		steps := len(x)*len(numbers) + 1
		sequences(4, steps, func(l []int) {
			m, want := made(t, depth), model{}
			for _, step := range l {
				if step == steps-1 {
					gone, come := want.moves(x)
					checkMoves(t, "step", m, gone, come, api.OK)
					continue
				}
				p := Pair{x[step/len(numbers)], numbers[step%len(numbers)]}
				want.added = append(want.added, p)
				add(t, m, p)
			}
			checkAll(t, "end", m, depth, want.all(x))
			checkFrontier(t, "end", m, want.frontier(x), api.OK)
			again := checkRead(t, m.Bytes(), depth, want.all(x), 0)
			checkMoves(t, "read", again, nil, want.frontier(x), api.OK)
			last := want.last
			gone, come := want.moves(x)
			checkMoves(t, "copy", m.Copy(), gone, come, api.OK)
			checkMoves(t, "end", m, gone, come, api.OK)
			checkMoves(t, "twice", m, nil, nil, api.OK)
			checkStep(t, last, gone, come, want.last)
		})
	}
}

// checkStep tells whether what left a frontier and what came to it lead to the next one.
func checkStep(t *testing.T, last, gone, come, next []api.Time) {
	t.Helper()
	l := slices.Concat(slices.DeleteFunc(slices.Clone(last), func(x api.Time) bool { return slices.Contains(gone, x) }), come)
	slices.SortFunc(l, stamp.Compare)
	if !slices.Equal(l, next) {
		t.Errorf("from %v, less %v, with %v, to %v; want %v", last, gone, come, l, next)
	}
}

// Promise 7.4: a number is the sum of what was added to it, in whatever order.
func TestAnyOrder(t *testing.T) {
	for depth := range 4 {
		x := places(depth)
		added := []Pair{{x[0], 3}, {x[0], -3}, {x[1], -5}, {x[1], 4}, {x[2], far}, {x[2], -far + 1}}
		want := []Pair{{x[1], -1}, {x[2], 1}}
		sequences(len(added), len(added), func(l []int) {
			var turned []Pair
			for _, i := range l {
				if slices.Contains(turned, added[i]) {
					return
				}
				turned = append(turned, added[i])
			}
			m := made(t, depth, turned...)
			if got := m.All(); !slices.Equal(got, want) {
				t.Errorf("after %v: %v; want %v", turned, got, want)
			}
			checkFrontier(t, "any order", m, x[2:3], api.OK)
		})
	}
}

// Promise 7.4: the frontier holds each time that is present, and none that is below all of them; successive Moves lead from one to the next.
func TestFrontiersHold(t *testing.T) {
	for depth := range 4 {
		m := made(t, depth)
		var last []api.Time
		for i := range uint32(400) {
			// Times that rise and fall, and numbers on both sides of 0.
			x := edge(depth, i*37%23, (400-i)*29%31)
			add(t, m, Pair{x, int64(i*7%5) - 2})
			front, e := m.Frontier()
			if e != api.OK || chain.Check(front) != api.OK {
				t.Fatalf("Frontier = %v, %d", front, e)
			}
			for _, p := range m.All() {
				if p.N > 0 && !chain.Holds(front, p.T) {
					t.Errorf("%v does not hold %v, which is present", front, p.T)
				}
			}
			for _, x := range front {
				if m.Count(x) <= 0 {
					t.Errorf("%v has %v, which is not present", front, x)
				}
			}
			gone, come, e := m.Moves()
			if e != api.OK {
				t.Fatalf("Moves: error %d", e)
			}
			checkStep(t, last, gone, come, front)
			last = front
		}
	}
}

// spoil writes over a list and behind its end.
func spoil(l []api.Time) {
	l = l[:cap(l)]
	for i := range l {
		l[i] = raw(7, 77, 77)
	}
}

// Rule R4: what is returned shares no memory with what is kept, or with what else is returned.
func TestResultsAreNew(t *testing.T) {
	l := stairs(5, 2)
	m := made(t, 2, each(1, l)...)
	gone, come, _ := m.Moves()
	front, _ := m.Frontier()
	spoil(gone)
	spoil(come)
	if !slices.Equal(front, l) {
		t.Errorf("Moves shares memory with Frontier: %v", front)
	}
	spoil(front)
	checkMoves(t, "spoiled", m, nil, nil, api.OK)
	checkFrontier(t, "spoiled", m, l, api.OK)
	add(t, m, Pair{l[0], -1}, Pair{l[4], -1}, Pair{at(0, 0, 9), 1}, Pair{at(9, 0, 0), 1})
	c := m.Copy()
	gone, come, _ = m.Moves()
	spoil(come)
	if !slices.Equal(gone, list(l[0], l[4])) {
		t.Errorf("Moves shares memory between its results: %v", gone)
	}
	spoil(gone)
	checkMoves(t, "copy", c, list(l[0], l[4]), list(at(0, 0, 9), at(9, 0, 0)), api.OK)
	front, _ = m.Frontier()
	for range 2 {
		pairs := m.All()
		pairs = pairs[:cap(pairs)]
		for i := range pairs {
			pairs[i] = Pair{at(77), 77}
		}
		checkAll(t, "spoiled", m, 2, []Pair{{at(0, 0, 9), 1}, {l[1], 1}, {l[2], 1}, {l[3], 1}, {at(9, 0, 0), 1}})
	}
	checkFrontier(t, "spoiled", m, front, api.OK)
	checkMoves(t, "spoiled", m, nil, nil, api.OK)
}
