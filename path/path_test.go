package path

import (
	"math"
	"slices"
	"testing"

	"watershed/api"
	"watershed/stamp"
)

const most = api.MaxCount

// at is a time with this epoch and these rounds.
func at(epoch uint32, rounds ...uint32) api.Time {
	t := api.Time{Epoch: epoch, Depth: len(rounds)}
	copy(t.Loop[:], rounds)
	return t
}

// raw is a time of any kind, valid or not.
func raw(depth int, epoch uint32, loop ...uint32) api.Time {
	t := at(epoch, loop...)
	t.Depth = depth
	return t
}

// way is the path from a depth that adds to the epoch and to as many rounds as follow, and appends a loop.
func way(from int, plus []uint32, loop ...uint32) Path {
	p := Path{From: from, Keep: len(plus) - 1, Push: len(loop)}
	copy(p.Plus[:], plus)
	copy(p.Loop[:], loop)
	return p
}

// add are the numbers that a path adds.
func add(l ...uint32) []uint32 { return l }

// fill are the lists of so many of these values.
func fill(n int, values []uint32) [][]uint32 {
	out := [][]uint32{{}}
	for range n {
		longer := [][]uint32{}
		for _, l := range out {
			for _, v := range values {
				longer = append(longer, append(slices.Clone(l), v))
			}
		}
		out = longer
	}
	return out
}

// ways are the paths of each shape with each of some numbers in each place.
func ways(values ...uint32) []Path {
	out := []Path{}
	for from := range 4 {
		for keep := range from + 1 {
			for push := range 4 - keep {
				for _, l := range fill(1+keep+push, values) {
					out = append(out, way(from, l[:1+keep], l[1+keep:]...))
				}
			}
		}
	}
	return out
}

// times are those of each depth with each of some numbers in each place.
func times(values ...uint32) []api.Time {
	out := []api.Time{}
	for depth := range 4 {
		for _, l := range fill(1+depth, values) {
			out = append(out, at(l[0], l[1:]...))
		}
	}
	return out
}

// notDepths are numbers that are the depth of no time.
var notDepths = []int{math.MinInt, -1 << 32, -4, -1, 4, 5, 1 << 32, 1<<32 + 1, math.MaxInt}

type fault struct {
	p Path
	e api.Errno
}

// badDepths are what Check answers ErrDepth for, whatever else is wrong.
func badDepths() []fault {
	shapes := [][3]int{}
	for _, d := range notDepths {
		shapes = append(shapes, [3]int{d, 0, 0}, [3]int{d, 1, 1}, [3]int{d, d, 0}, [3]int{3, d, 0}, [3]int{0, d, 0}, [3]int{3, d, 3}, [3]int{0, 0, d}, [3]int{3, 3, d}, [3]int{3, 1, d})
	}
	shapes = append(shapes,
		[3]int{0, 1, 0}, [3]int{1, 2, 0}, [3]int{2, 3, 0}, [3]int{0, 3, 0}, [3]int{1, 3, 0},
		[3]int{0, -1, 3}, [3]int{3, -1, 4}, [3]int{3, -2, 3}, [3]int{0, -1, 1},
		[3]int{1, 1, 3}, [3]int{2, 2, 2}, [3]int{3, 3, 1}, [3]int{3, 2, 2}, [3]int{3, 1, 3}, [3]int{3, 3, 3},
		[3]int{1, 1, -1}, [3]int{3, 3, -1}, [3]int{3, 3, -3}, [3]int{3, 2, -1},
		[3]int{3, 1, math.MaxInt - 1}, [3]int{3, 3, math.MaxInt - 2}, [3]int{math.MaxInt, math.MaxInt, math.MaxInt},
		[3]int{math.MaxInt, math.MaxInt, 2}, [3]int{math.MinInt, math.MinInt, math.MinInt}, [3]int{3, math.MinInt, math.MaxInt},
	)
	out := []fault{}
	for _, s := range shapes {
		p := Path{From: s[0], Keep: s[1], Push: s[2]}
		out = append(out, fault{p, api.ErrDepth})
		p.Plus = [4]uint32{1, 1, 1, 1}
		out = append(out, fault{p, api.ErrDepth})
		p.Loop = [3]uint32{most + 1, 0, math.MaxUint32}
		out = append(out, fault{p, api.ErrDepth})
	}
	return out
}

// with is a path with another number in Plus, or, if at is 4 or more, in Loop.
func with(p Path, at int, v uint32) Path {
	if at < len(p.Plus) {
		p.Plus[at] = v
	} else {
		p.Loop[at-len(p.Plus)] = v
	}
	return p
}

// isFree tells whether this number of a path need not be 0.
func isFree(p Path, at int) bool {
	if at < len(p.Plus) {
		return at <= p.Keep
	}
	return at-len(p.Plus) < p.Push
}

// badNumbers are paths of each shape that have a number which they may not have, and a second one.
func badNumbers() []fault {
	out := []fault{}
	for _, p := range ways(5) {
		for i := range 7 {
			for _, v := range add(most+1, 1<<31, math.MaxUint32) {
				out = append(out, fault{with(p, i, v), api.ErrRange})
				for j := range 7 {
					if j != i {
						out = append(out, fault{with(with(p, i, v), j, 1), api.ErrRange})
					}
				}
			}
			for _, v := range add(1, most) {
				if !isFree(p, i) {
					out = append(out, fault{with(p, i, v), api.ErrField})
				}
			}
		}
	}
	return out
}

// bad are what is no path, and what is wrong with it first.
func bad() []fault { return append(badDepths(), badNumbers()...) }

// fewBad are what is no path, one or two of each error.
func fewBad() []fault {
	return []fault{
		{Path{From: -1}, api.ErrDepth},
		{Path{From: 4, Keep: 4, Plus: [4]uint32{most + 1}}, api.ErrDepth},
		{Path{From: 3, Keep: 3, Push: 1, Loop: [3]uint32{1, 1}}, api.ErrDepth},
		{way(1, add(most+1, 0)), api.ErrRange},
		{way(2, add(0), 1, most+1), api.ErrRange},
		{Path{From: 1, Keep: 1, Plus: [4]uint32{0, 0, 1, most + 1}}, api.ErrRange},
		{Path{From: 1, Keep: 0, Plus: [4]uint32{0, 1}}, api.ErrField},
		{Path{From: 0, Push: 1, Loop: [3]uint32{0, 0, 1}}, api.ErrField},
	}
}

// badTimes are times that are none, and what is wrong with them first.
func badTimes() map[api.Time]api.Errno {
	return map[api.Time]api.Errno{
		raw(-1, 0):               api.ErrDepth,
		raw(4, most+1, 1, 2, 3):  api.ErrDepth,
		raw(math.MaxInt, 0):      api.ErrDepth,
		raw(0, most+1):           api.ErrRange,
		raw(2, 3, 1, most+1):     api.ErrRange,
		raw(1, 3, 1, 0, 1<<31):   api.ErrRange,
		raw(0, 3, 1):             api.ErrField,
		raw(2, 3, 1, 1, 1):       api.ErrField,
		raw(1, most, most, most): api.ErrField,
	}
}

// Promise 5.1: Check and To of paths of each shape, with the edges in each place.
func TestCheckTo(t *testing.T) {
	l := ways(0, 1, most-1, most)
	if len(l) < 1000 {
		t.Fatalf("only %d paths", len(l))
	}
	for _, p := range l {
		if e, to := Check(p), To(p); e != api.OK || to != p.Keep+p.Push {
			t.Errorf("of %v, Check is %d and To %d", p, e, to)
		}
	}
	for _, c := range []struct {
		p  Path
		to int
	}{
		{Path{}, 0},
		{way(3, add(0)), 0},
		{way(0, add(0), 0, 0, 0), 3},
		{way(3, add(0, 0, 0, 0)), 3},
		{way(3, add(1), 2, 3, 4), 3},
		{way(3, add(1, 2), 3), 2},
		{way(1, add(most, most), most, most), 3},
	} {
		if e, to := Check(c.p), To(c.p); e != api.OK || to != c.to {
			t.Errorf("of %v, Check is %d and To %d; want 0 and %d", c.p, e, to, c.to)
		}
	}
}

// Promise 5.1: what Check finds wrong first, and To of what is no path.
func TestCheckBad(t *testing.T) {
	for _, c := range bad() {
		if e, to := Check(c.p), To(c.p); e != c.e || to != 0 {
			t.Errorf("of %v, Check is %d and To %d; want %d and 0", c.p, e, to, c.e)
		}
	}
	for _, c := range fewBad() {
		if e, to := Check(c.p), To(c.p); e != c.e || to != 0 {
			t.Errorf("of %v, Check is %d and To %d; want %d and 0", c.p, e, to, c.e)
		}
	}
}

// checkMade tells whether a call made the path for each depth from a least one on, and none for what is no such depth.
func checkMade(t *testing.T, name string, f func(depth int) (Path, api.Errno), least int, want []Path) {
	t.Helper()
	for depth := range 4 {
		p, e := Path{}, api.ErrDepth
		if least <= depth && depth < least+len(want) {
			p, e = want[depth-least], api.OK
		}
		if got, f := f(depth); got != p || f != e {
			t.Errorf("%s(%d) = %v, %d; want %v, %d", name, depth, got, f, p, e)
		}
	}
	for _, depth := range notDepths {
		if got, e := f(depth); got != (Path{}) || e != api.ErrDepth {
			t.Errorf("%s(%d) = %v, %d; want no path, %d", name, depth, got, e, api.ErrDepth)
		}
	}
}

// Promise 5.2: Stay, Enter, Leave and Next of each depth, and of what is none.
func TestMade(t *testing.T) {
	checkMade(t, "Stay", Stay, 0, []Path{
		{From: 0, Keep: 0}, {From: 1, Keep: 1}, {From: 2, Keep: 2}, {From: 3, Keep: 3},
	})
	checkMade(t, "Enter", Enter, 0, []Path{
		{From: 0, Keep: 0, Push: 1}, {From: 1, Keep: 1, Push: 1}, {From: 2, Keep: 2, Push: 1},
	})
	checkMade(t, "Leave", Leave, 1, []Path{
		{From: 1, Keep: 0}, {From: 2, Keep: 1}, {From: 3, Keep: 2},
	})
	checkMade(t, "Next", Next, 1, []Path{
		{From: 1, Keep: 1, Plus: [4]uint32{0, 1}},
		{From: 2, Keep: 2, Plus: [4]uint32{0, 0, 1}},
		{From: 3, Keep: 3, Plus: [4]uint32{0, 0, 0, 1}},
	})
}

// Promise 5.2: Later of each depth, by nothing, by the greatest count, and by what is no count.
func TestLater(t *testing.T) {
	for _, n := range add(0, 1, 7, most-1, most) {
		checkMade(t, "Later", func(depth int) (Path, api.Errno) { return Later(depth, n) }, 0, []Path{
			{From: 0, Keep: 0, Plus: [4]uint32{n}}, {From: 1, Keep: 1, Plus: [4]uint32{n}},
			{From: 2, Keep: 2, Plus: [4]uint32{n}}, {From: 3, Keep: 3, Plus: [4]uint32{n}},
		})
	}
	for _, n := range add(most+1, 1<<31, math.MaxUint32) {
		for depth := range 4 {
			if got, e := Later(depth, n); got != (Path{}) || e != api.ErrRange {
				t.Errorf("Later(%d, %d) = %v, %d; want no path, %d", depth, n, got, e, api.ErrRange)
			}
		}
		for _, depth := range notDepths {
			if got, e := Later(depth, n); got != (Path{}) || e != api.ErrDepth {
				t.Errorf("Later(%d, %d) = %v, %d; want no path, %d", depth, n, got, e, api.ErrDepth)
			}
		}
	}
}

// Promise 5.2: what these paths do is what the calls of package stamp with the same names do.
func TestMadeApplied(t *testing.T) {
	for _, x := range times(0, 7, most) {
		for name, c := range map[string]struct {
			made func(depth int) (Path, api.Errno)
			want func(api.Time) (api.Time, api.Errno)
		}{
			"Stay":  {Stay, func(x api.Time) (api.Time, api.Errno) { return x, api.OK }},
			"Enter": {Enter, stamp.Enter},
			"Leave": {Leave, stamp.Leave},
			"Next":  {Next, stamp.Next},
			"Later": {
				func(depth int) (Path, api.Errno) { return Later(depth, 4) },
				func(x api.Time) (api.Time, api.Errno) { return stamp.Later(x, 4) },
			},
		} {
			got := api.Time{}
			p, e := c.made(x.Depth)
			if e == api.OK {
				got, e = Apply(p, x)
			}
			if want, f := c.want(x); got != want || e != f {
				t.Errorf("%s, applied to %v: %v, %d; want %v, %d", name, x, got, e, want, f)
			}
		}
	}
}

type applied struct {
	p    Path
	t    api.Time
	want api.Time
	e    api.Errno
}

func checkApply(t *testing.T, c applied) {
	t.Helper()
	if got, e := Apply(c.p, c.t); got != c.want || e != c.e {
		t.Errorf("Apply(%v, %v) = %v, %d; want %v, %d", c.p, c.t, got, e, c.want, c.e)
	}
}

// Promise 5.3: Apply keeps, adds, removes and appends, and its sums may just fit.
func TestApply(t *testing.T) {
	none := api.Time{}
	for _, c := range []applied{
		{way(0, add(0), 2), at(5), at(5, 2), api.OK},
		{way(0, add(0)), at(0), at(0), api.OK},
		{way(0, add(3), 0, 0, 0), at(4), at(7, 0, 0, 0), api.OK},
		{way(0, add(3), 7, 8, 9), at(4), at(7, 7, 8, 9), api.OK},
		{way(3, add(1)), at(4, 7, 8, 9), at(5), api.OK},
		{way(3, add(1, 10)), at(4, 7, 8, 9), at(5, 17), api.OK},
		{way(3, add(1, 10, 20)), at(4, 7, 8, 9), at(5, 17, 28), api.OK},
		{way(3, add(1, 10, 20, 30)), at(4, 7, 8, 9), at(5, 17, 28, 39), api.OK},
		{way(3, add(1), 4, 5, 6), at(4, 7, 8, 9), at(5, 4, 5, 6), api.OK},
		{way(3, add(1, 10), 4, 5), at(4, 7, 8, 9), at(5, 17, 4, 5), api.OK},
		{way(3, add(1, 10, 20), 4), at(4, 7, 8, 9), at(5, 17, 28, 4), api.OK},
		{way(2, add(0, 0), 6), at(4, 7, 8), at(4, 7, 6), api.OK},
		{way(1, add(0, 1), 6, 7), at(4, 7), at(4, 8, 6, 7), api.OK},
		{way(0, add(most), most, most, most), at(0), at(most, most, most, most), api.OK},
		{way(3, add(1, 2, 3, 4)), at(most-1, most-2, most-3, most-4), at(most, most, most, most), api.OK},
		{way(3, add(most, most, most, most)), at(0, 0, 0, 0), at(most, most, most, most), api.OK},
		// A round that is removed is added to nothing, and one that is appended neither.
		{way(3, add(0, 1)), at(most, 0, most, most), at(most, 1), api.OK},
		{way(1, add(0), most), at(1, most), at(1, most), api.OK},
		{way(0, add(1)), at(most), none, api.ErrOver},
		{way(0, add(most)), at(1), none, api.ErrOver},
		{way(0, add(most)), at(most), none, api.ErrOver},
		{way(3, add(1)), at(most, 0, 0, 0), none, api.ErrOver},
		{way(1, add(0, 1)), at(0, most), none, api.ErrOver},
		{way(2, add(0, 0, most)), at(0, 0, 1), none, api.ErrOver},
		{way(3, add(0, 0, 0, 2)), at(0, 0, 0, most-1), none, api.ErrOver},
		{way(3, add(0, 1, 0), 3), at(0, most, 0, 0), none, api.ErrOver},
		{way(3, add(1, 1, 1, 1)), at(most, most, most, most), none, api.ErrOver},
	} {
		checkApply(t, c)
	}
}

// defined is what a path makes of a time, as the definition tells it.
func defined(p Path, t api.Time) (api.Time, api.Errno) {
	numbers := append(add(t.Epoch), t.Loop[:p.Keep]...)
	for i := range numbers {
		numbers[i] += p.Plus[i]
		if numbers[i] > most {
			return api.Time{}, api.ErrOver
		}
	}
	numbers = append(numbers, p.Loop[:p.Push]...)
	return at(numbers[0], numbers[1:]...), api.OK
}

// Promise 5.3: Apply of paths of each shape to times of each depth.
func TestApplyAll(t *testing.T) {
	for _, p := range ways(0, 1, 5, most) {
		for _, x := range times(0, 3, most-1) {
			if x.Depth != p.From {
				checkApply(t, applied{p, x, api.Time{}, api.ErrDepth})
				continue
			}
			want, e := defined(p, x)
			checkApply(t, applied{p, x, want, e})
		}
	}
}

// Promise 5.3: Apply answers what is wrong with the path, then with the time, then with both, then with the sums.
func TestApplyErrors(t *testing.T) {
	none := api.Time{}
	good := []api.Time{at(3), at(3, 1), at(3, 1, 1), at(3, 1, 1, 1), at(most, most, most, most)}
	for _, c := range bad() {
		for _, x := range good {
			checkApply(t, applied{c.p, x, none, c.e})
		}
		// The same depth as the path has, right or not.
		checkApply(t, applied{c.p, raw(c.p.From, 0), none, c.e})
		for x := range badTimes() {
			checkApply(t, applied{c.p, x, none, c.e})
		}
	}
	for x, e := range badTimes() {
		for _, p := range ways(0, most) {
			checkApply(t, applied{p, x, none, e})
		}
	}
	checkApply(t, applied{way(1, add(most, most)), at(most), none, api.ErrDepth})
	checkApply(t, applied{way(1, add(most, most)), at(most, most, most), none, api.ErrDepth})
	checkApply(t, applied{way(0, add(most)), at(most, 0), none, api.ErrDepth})
}

type composed struct {
	p, q, want Path
	e          api.Errno
}

func checkThen(t *testing.T, c composed) {
	t.Helper()
	if got, e := Then(c.p, c.q); got != c.want || e != c.e {
		t.Errorf("Then(%v, %v) = %v, %d; want %v, %d", c.p, c.q, got, e, c.want, c.e)
	}
}

// steps is the composition of some paths, one after the other.
func steps(t *testing.T, l ...Path) Path {
	p := l[0]
	for _, q := range l[1:] {
		both, e := Then(p, q)
		if e != api.OK {
			t.Errorf("Then(%v, %v): error %d", p, q, e)
		}
		p = both
	}
	return p
}

// made is a path without its error.
func made(p Path, _ api.Errno) Path { return p }

// Promise 5.3: the examples: a loop that is left does nothing, and what two rounds make of a time.
func TestThenExamples(t *testing.T) {
	enter, next, leave, stay := made(Enter(0)), made(Next(1)), made(Leave(1)), made(Stay(0))
	if got := steps(t, enter, next, leave); got != stay {
		t.Errorf("of Enter, Next and Leave: %v; want %v", got, stay)
	}
	twice := steps(t, enter, next, next)
	if want := (Path{Push: 1, Loop: [3]uint32{2}}); twice != want {
		t.Errorf("of Enter, Next and Next: %v; want %v", twice, want)
	}
	checkApply(t, applied{twice, at(5), at(5, 2), api.OK})
	checkThen(t, composed{enter, enter, Path{}, api.ErrDepth})
}

// Promise 5.3: Then where q keeps less than p, as much, and more, and where its sums just fit or do not.
func TestThen(t *testing.T) {
	none := Path{}
	for _, c := range []composed{
		{Path{}, Path{}, Path{}, api.OK},
		{way(3, add(1, 2, 3, 4)), way(3, add(10, 20, 30, 40)), way(3, add(11, 22, 33, 44)), api.OK},
		{way(3, add(1, 2, 3, 4)), way(3, add(10, 20)), way(3, add(11, 22)), api.OK},
		{way(3, add(1, 2, 3, 4)), way(3, add(10, 20), 7, 8), way(3, add(11, 22), 7, 8), api.OK},
		{way(3, add(1, 2)), way(1, add(10, 20), 7), way(3, add(11, 22), 7), api.OK},
		{way(0, add(1), 2, 3, 4), way(3, add(10, 20, 30, 40)), way(0, add(11), 22, 33, 44), api.OK},
		{way(0, add(1), 2, 3, 4), way(3, add(10, 20), 7, 8), way(0, add(11), 22, 7, 8), api.OK},
		{way(0, add(1), 2, 3, 4), way(3, add(10)), way(0, add(11)), api.OK},
		{way(0, add(1), 2, 3), way(2, add(10, 20, 30), 7), way(0, add(11), 22, 33, 7), api.OK},
		{way(3, add(1, 2), 3), way(2, add(10, 20, 30)), way(3, add(11, 22), 33), api.OK},
		{way(3, add(1, 2), 3), way(2, add(10, 20, 30), 7), way(3, add(11, 22), 33, 7), api.OK},
		{way(2, add(1, 2), 3, 4), way(3, add(10), 7, 8, 9), way(2, add(11), 7, 8, 9), api.OK},
		{way(1, add(0, 0), 0, 0), way(3, add(0, 0, 0, 0)), way(1, add(0, 0), 0, 0), api.OK},
		{way(0, add(1), most-2), way(1, add(most-1, 2)), way(0, add(most), most), api.OK},
		{way(1, add(most, 1)), way(1, add(0, most-1), most, most), way(1, add(most, most), most, most), api.OK},
		{way(0, add(most)), way(0, add(1)), none, api.ErrOver},
		{way(0, add(1)), way(0, add(most)), none, api.ErrOver},
		{way(3, add(0, 0, 0, most)), way(3, add(0, 0, 0, 1)), none, api.ErrOver},
		{way(2, add(0, 2, 0)), way(2, add(0, most-1)), none, api.ErrOver},
		{way(0, add(0), most), way(1, add(0, 1)), none, api.ErrOver},
		{way(0, add(0), 1, 2, 3), way(3, add(0, 0, 0, most-2)), none, api.ErrOver},
		{way(2, add(0, 0), 2, 3), way(3, add(0, 0, most-1), 5), none, api.ErrOver},
		// What q removes is in no sum.
		{way(0, add(0), most, most), way(2, add(0, 0)), way(0, add(0), most), api.OK},
		{way(2, add(0, most, most)), way(2, add(0), 1, most), way(2, add(0), 1, most), api.OK},
	} {
		checkThen(t, c)
	}
}

// definedThen is the composition of two paths that fit together, as the chapter tells it.
func definedThen(p, q Path) (Path, api.Errno) {
	keep := min(p.Keep, q.Keep)
	plus := slices.Clone(p.Plus[:1+keep])
	for i := range plus {
		plus[i] += q.Plus[i]
	}
	loop := []uint32{}
	for i := p.Keep; i < q.Keep; i++ {
		loop = append(loop, p.Loop[i-p.Keep]+q.Plus[1+i])
	}
	for _, v := range slices.Concat(plus, loop) {
		if v > most {
			return Path{}, api.ErrOver
		}
	}
	return way(p.From, plus, append(loop, q.Loop[:q.Push]...)...), api.OK
}

// Promise 5.3: Then of each two paths of each shape.
func TestThenAll(t *testing.T) {
	l := ways(0, 1, most-1)
	for _, p := range l {
		for _, q := range l {
			if To(p) != q.From {
				checkThen(t, composed{p, q, Path{}, api.ErrDepth})
				continue
			}
			want, e := definedThen(p, q)
			checkThen(t, composed{p, q, want, e})
		}
	}
}

// Promise 5.3: Then answers what is wrong with p, then with q, then with both, then with the sums.
func TestThenErrors(t *testing.T) {
	l := ways(0, most)
	for _, c := range bad() {
		for _, good := range []Path{{}, way(1, add(1, 1)), way(2, add(0)), way(3, add(most, most, most, most))} {
			checkThen(t, composed{c.p, good, Path{}, c.e})
			checkThen(t, composed{good, c.p, Path{}, c.e})
		}
		for _, d := range fewBad() {
			checkThen(t, composed{c.p, d.p, Path{}, c.e})
			checkThen(t, composed{d.p, c.p, Path{}, d.e})
		}
	}
	for _, c := range fewBad() {
		for _, p := range l {
			checkThen(t, composed{c.p, p, Path{}, c.e})
			checkThen(t, composed{p, c.p, Path{}, c.e})
		}
	}
	checkThen(t, composed{way(0, add(most)), way(1, add(1, 0)), Path{}, api.ErrDepth})
	checkThen(t, composed{way(0, add(most), 0), way(0, add(most)), Path{}, api.ErrDepth})
}

// checkLE holds LE both ways against what it should be.
func checkLE(t *testing.T, p, q Path, pq, qp bool) {
	t.Helper()
	if got := LE(p, q); got != pq {
		t.Errorf("LE(%v, %v) = %v", p, q, got)
	}
	if got := LE(q, p); got != qp {
		t.Errorf("LE(%v, %v) = %v", q, p, got)
	}
}

// Promise 5.4: LE of paths that keep as much, less, or more, at each position.
func TestLE(t *testing.T) {
	a := steps(t, made(Enter(0)), made(Next(1)))
	checkLE(t, a, steps(t, a, made(Next(1))), true, false)
	for _, c := range []struct {
		p, q   Path
		pq, qp bool
	}{
		{Path{}, Path{}, true, true},
		{way(0, add(3)), way(0, add(4)), true, false},
		{way(0, add(0)), way(0, add(most)), true, false},
		{way(3, add(1, 2, 3, 4)), way(3, add(1, 2, 3, 4)), true, true},
		{way(3, add(1, 2, 3, 4)), way(3, add(1, 2, 3, 5)), true, false},
		{way(3, add(1, 2, 3, 4)), way(3, add(1, 2, 4, 3)), false, false},
		{way(3, add(1, 2, 3, 4)), way(3, add(1, 3, 3, 4)), true, false},
		{way(3, add(1, 2, 3, 4)), way(3, add(2, 1, 3, 4)), false, false},
		{way(3, add(0), 1, 2, 3), way(3, add(0), 1, 2, 4), true, false},
		{way(3, add(0), 1, 2, 3), way(3, add(0), 1, 3, 2), false, false},
		{way(3, add(0), 1, 2, 3), way(3, add(1), 0, 2, 3), false, false},
		// An appended round against a kept one: what is added to it counts, and a kept one is never within it.
		{way(3, add(0), 1, 2, 3), way(3, add(0, 1, 2, 3)), true, false},
		{way(3, add(0), 1, 2, 3), way(3, add(0, 1, 2, 2)), false, false},
		{way(3, add(0), 1, 2, 3), way(3, add(0, 0, 2, 3)), false, false},
		{way(3, add(0), 1, 2, 3), way(3, add(0, 1, 2), 3), true, false},
		{way(3, add(0), 1, 2, 3), way(3, add(0, 1, 2), 2), false, false},
		{way(3, add(0), 1, 2, 3), way(3, add(0, 1, 1), 3), false, false},
		{way(3, add(0), 1, 2, 3), way(3, add(0, 1), 2, 3), true, false},
		{way(3, add(0), 1, 2, 3), way(3, add(0, 1), 1, 9), false, false},
		{way(3, add(0), 1, 2, 3), way(3, add(0, 9), 2, 2), false, false},
		{way(3, add(0, 5), 2, 3), way(3, add(0, 5, 2, 3)), true, false},
		{way(3, add(0, 5), 2, 3), way(3, add(0, 5, 2), 3), true, false},
		{way(3, add(0, 5), 2, 3), way(3, add(0, 4, 9), 9), false, false},
		{way(3, add(1, 5), 2, 3), way(3, add(0, 9, 9), 9), false, false},
		{way(1, add(0), 0), way(1, add(0, 0)), true, false},
		{way(1, add(0), most), way(1, add(0, 0)), false, false},
		{way(1, add(0), most), way(1, add(0, most)), true, false},
		// Another depth that they come from, or lead to.
		{way(0, add(0)), way(1, add(0)), false, false},
		{way(2, add(0), 1), way(3, add(0), 1), false, false},
		{way(3, add(0)), way(3, add(0), 0), false, false},
		{way(3, add(0, 0)), way(3, add(0, 0, 0)), false, false},
		{way(3, add(0, 0), 0), way(3, add(0, 0, 0), 0), false, false},
	} {
		checkLE(t, c.p, c.q, c.pq, c.qp)
	}
}

// Promise 5.4: nothing is less than or equal to what is no path, nor that to anything, not even to itself.
func TestLEBad(t *testing.T) {
	for _, c := range bad() {
		checkLE(t, c.p, c.p, false, false)
		checkLE(t, c.p, Path{}, false, false)
		checkLE(t, c.p, Path{From: c.p.From, Keep: c.p.Keep, Push: c.p.Push, Plus: c.p.Plus}, false, false)
	}
	for _, c := range fewBad() {
		for _, d := range fewBad() {
			checkLE(t, c.p, d.p, false, false)
		}
		for _, p := range ways(0, most) {
			checkLE(t, c.p, p, false, false)
		}
	}
	// Each of these differs from a path by one thing that it may not have.
	checkLE(t, Path{}, Path{Loop: [3]uint32{1}}, false, false)
	checkLE(t, Path{}, Path{Plus: [4]uint32{0, 1}}, false, false)
	checkLE(t, Path{}, Path{Plus: [4]uint32{most + 1}}, false, false)
}

// Promise 5.4: LE is exactly that no time is led further by p than by q.
func TestLEAll(t *testing.T) {
	l, ts := ways(0, 2), times(0, 1, 9)
	for _, p := range l {
		for _, q := range l {
			want := p.From == q.From && To(p) == To(q)
			for _, x := range ts {
				if want && x.Depth == p.From {
					want = stamp.LE(steppedTo(t, p, x), steppedTo(t, q, x))
				}
			}
			if got := LE(p, q); got != want {
				t.Errorf("LE(%v, %v) = %v", p, q, got)
			}
		}
	}
}

// steppedTo is what a path makes of a time that fits it.
func steppedTo(t *testing.T, p Path, x api.Time) api.Time {
	y, e := Apply(p, x)
	if e != api.OK {
		t.Errorf("Apply(%v, %v): error %d", p, x, e)
	}
	return y
}

// Promise 5.4: Rises of paths that add at one position or at several, and of those that do not, or are none.
func TestRises(t *testing.T) {
	for _, c := range []struct {
		p    Path
		want bool
	}{
		{made(Next(1)), true},
		{made(Next(2)), true},
		{made(Next(3)), true},
		{made(Later(0, 1)), true},
		{made(Later(3, most)), true},
		{way(1, add(1, 1)), true},
		{way(3, add(0, most, 0, 0)), true},
		{way(3, add(0, 0, 1, 0)), true},
		{made(Enter(0)), false},
		{made(Enter(2)), false},
		{made(Leave(1)), false},
		{made(Leave(3)), false},
		{made(Stay(0)), false},
		{made(Stay(3)), false},
		{made(Later(2, 0)), false},
		// They lead to their depth, but do not keep all rounds.
		{way(1, add(1), 5), false},
		{way(3, add(1, 1, 1), most), false},
		{way(3, add(most), most, most, most), false},
		// They keep all rounds, but do not lead to their depth.
		{way(0, add(1), 1), false},
		{way(1, add(1, 1), 0, 0), false},
		{way(2, add(1, 1, 1), 0), false},
		{way(2, add(1, 1)), false},
		{way(3, add(1)), false},
	} {
		if got := Rises(c.p); got != c.want {
			t.Errorf("Rises(%v) = %v", c.p, got)
		}
	}
	for _, c := range append(bad(), fewBad()...) {
		if Rises(c.p) {
			t.Errorf("Rises(%v), which is no path", c.p)
		}
	}
	for _, p := range []Path{
		{Plus: [4]uint32{1, 1}}, {Plus: [4]uint32{1}, Loop: [3]uint32{1}}, {Plus: [4]uint32{most + 1}},
		{From: 1, Keep: 1, Plus: [4]uint32{0, 1, 1}}, {From: 4, Keep: 4, Plus: [4]uint32{1}}, {From: -1, Keep: -1, Plus: [4]uint32{1}},
	} {
		if Rises(p) {
			t.Errorf("Rises(%v), which is no path", p)
		}
	}
}

// checkOrder tells whether each path of a list is less than all that follow it, and equal to itself.
func checkOrder(t *testing.T, l []Path) {
	t.Helper()
	for i, p := range l {
		for j, q := range l {
			want := 0
			if i < j {
				want = -1
			} else if i > j {
				want = 1
			}
			if got := Compare(p, q); got != want {
				t.Errorf("Compare(%v, %v) = %d; want %d", p, q, got, want)
			}
		}
	}
}

// Promise 5.4: From goes ahead of Keep, that ahead of Plus, of Push, and of Loop, each element ahead of the next.
func TestCompare(t *testing.T) {
	checkOrder(t, []Path{
		{}, way(0, add(0), 0), way(0, add(0), 1), way(0, add(0), most), way(0, add(0), 0, 0), way(0, add(0), 0, 0, 1), way(0, add(0), 0, 1, 0), way(0, add(0), 2, 0, 0),
		way(0, add(1)), way(0, add(1), 1), way(0, add(2)), way(0, add(10)), way(0, add(most)), way(0, add(most), most, most, most),
		way(1, add(0)), way(1, add(0), 5), way(1, add(3)), way(1, add(0, 0)), way(1, add(0, 0), 7), way(1, add(0, 1)), way(1, add(1, 0)),
		way(2, add(0)), way(2, add(9), 9, 9, 9), way(2, add(0, 0)), way(2, add(0, 0, 0)),
		way(3, add(most, most, most)), way(3, add(0, 0, 0, 0)), way(3, add(0, 0, 0, 1)), way(3, add(0, 0, 1, 0)), way(3, add(0, 1, 0, 0)), way(3, add(1, 0, 0, 0)), way(3, add(most, most, most, most)),
	})
}

// Promise 5.4: Compare of what is no path compares the same numbers.
func TestCompareBad(t *testing.T) {
	checkOrder(t, []Path{
		{From: math.MinInt, Keep: 9, Push: 9}, {From: -1, Keep: math.MaxInt}, {From: 0, Keep: math.MinInt},
		{Keep: -1, Plus: [4]uint32{1}}, {Push: math.MinInt}, {Push: -1, Loop: [3]uint32{9, 9, 9}},
		{}, {Loop: [3]uint32{0, 0, 1}}, {Loop: [3]uint32{0, 1}}, {Loop: [3]uint32{0, math.MaxUint32}}, {Loop: [3]uint32{1}}, {Loop: [3]uint32{math.MaxUint32}},
		{Push: 1}, {Push: 1 << 32}, {Push: math.MaxInt},
		{Plus: [4]uint32{0, 0, 0, 1}}, {Plus: [4]uint32{0, 0, 0, math.MaxUint32}}, {Plus: [4]uint32{0, 0, 1}}, {Plus: [4]uint32{0, 1}},
		{Plus: [4]uint32{1}, Push: -1}, {Plus: [4]uint32{1}}, {Plus: [4]uint32{most + 1}}, {Plus: [4]uint32{1 << 31}}, {Plus: [4]uint32{math.MaxUint32}},
		{Keep: 1}, {Keep: math.MaxInt}, {From: 4}, {From: 4, Keep: 4}, {From: 1 << 32}, {From: math.MaxInt},
	})
}

// Promise 5.5: Apply of Then(p, q) is Apply of p followed by Apply of q.
func TestThenApplied(t *testing.T) {
	l, ts := ways(0, 1, 7), times(0, 4)
	for _, p := range l {
		for _, q := range l {
			if To(p) != q.From {
				continue
			}
			both, e := Then(p, q)
			if e != api.OK {
				t.Errorf("Then(%v, %v): error %d", p, q, e)
			}
			for _, x := range ts {
				if x.Depth != p.From {
					continue
				}
				if got, want := steppedTo(t, both, x), steppedTo(t, q, steppedTo(t, p, x)); got != want {
					t.Errorf("%v becomes %v by %v; by %v and then %v, %v", x, got, both, p, q, want)
				}
			}
		}
	}
}

// Promise 5.5: Then is associative.
func TestThenAssociative(t *testing.T) {
	l := ways(0, 3)
	for _, p := range l {
		for _, q := range l {
			if To(p) != q.From {
				continue
			}
			pq := steps(t, p, q)
			for _, r := range l {
				if To(q) != r.From {
					continue
				}
				if a, b := steps(t, pq, r), steps(t, p, steps(t, q, r)); a != b {
					t.Errorf("of %v, %v and %v: %v or %v", p, q, r, a, b)
				}
			}
		}
	}
}

// Promise 5.5: Stay is the identity of Then, on both sides.
func TestThenStay(t *testing.T) {
	for _, p := range ways(0, 1, most) {
		checkThen(t, composed{made(Stay(p.From)), p, p, api.OK})
		checkThen(t, composed{p, made(Stay(To(p))), p, api.OK})
	}
}

// Promise 5.5: a path that is less than or equal to another one leads no time further, at the greatest counts neither.
func TestLEApplied(t *testing.T) {
	l, ts := ways(0, most-1, most), times(0, 1, most)
	for _, p := range l {
		for _, q := range l {
			if !LE(p, q) {
				continue
			}
			for _, x := range ts {
				a, e := Apply(p, x)
				b, f := Apply(q, x)
				if e == api.OK && f == api.OK && !stamp.LE(a, b) {
					t.Errorf("LE(%v, %v), but they make %v and %v of %v", p, q, a, b, x)
				}
			}
		}
	}
}

// Promise 5.5: a path that Rises leads to a strictly greater time.
func TestRisesApplied(t *testing.T) {
	for _, p := range ways(0, 1, most) {
		if !Rises(p) {
			continue
		}
		for _, x := range times(0, 5, most) {
			if y, e := Apply(p, x); e == api.OK && (!stamp.LE(x, y) || x == y) {
				t.Errorf("%v, which rises, makes %v of %v", p, y, x)
			}
		}
	}
}
