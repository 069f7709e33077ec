package stamp

import (
	"math"
	"math/big"
	"strings"
	"testing"

	"watershed/api"
	"watershed/code"
)

const most = api.MaxCount

// at is a time with this epoch and these rounds.
func at(epoch uint32, rounds ...uint32) api.Time {
	t := api.Time{Epoch: epoch, Depth: len(rounds)}
	copy(t.Loop[:], rounds)
	return t
}

// raw is a time of any kind, valid or not.
func raw(depth int, epoch uint32, loop ...uint32) api.Time {
	t := at(epoch, loop...)
	t.Depth = depth
	return t
}

// edges are times of each depth with each of some numbers in each place.
func edges(values ...uint32) []api.Time {
	l := []api.Time{}
	for _, v := range values {
		l = append(l, at(v))
	}
	for depth, from := 0, 0; depth < api.MaxDepth; depth++ {
		to := len(l)
		for _, t := range l[from:to] {
			for _, v := range values {
				t.Depth, t.Loop[depth] = depth+1, v
				l = append(l, t)
			}
		}
		from = to
	}
	return l
}

// few are the times of each depth that have only 0, a number between, and the greatest count in them.
func few() []api.Time { return edges(0, 7, most) }

// bad are times that are none, and what is wrong with them first.
var bad = []struct {
	t api.Time
	e api.Errno
}{
	{raw(-1, 0), api.ErrDepth},
	{raw(4, 0), api.ErrDepth},
	{raw(math.MinInt, 3, 1), api.ErrDepth},
	{raw(math.MaxInt, 3, 1, 1, 1), api.ErrDepth},
	{raw(1<<32, 0), api.ErrDepth},
	{raw(1<<32+1, 3, 1), api.ErrDepth},
	{raw(-1, most+1), api.ErrDepth},
	{raw(4, 0, 0, 0, most+1), api.ErrDepth},
	{raw(5, math.MaxUint32, math.MaxUint32, math.MaxUint32, math.MaxUint32), api.ErrDepth},
	{raw(-1, 0, 1), api.ErrDepth},
	{raw(0, most+1), api.ErrRange},
	{raw(0, 1<<31), api.ErrRange},
	{raw(0, math.MaxUint32), api.ErrRange},
	{raw(3, most+1, 1, 2, 3), api.ErrRange},
	{raw(1, 3, most+1), api.ErrRange},
	{raw(1, 3, math.MaxUint32), api.ErrRange},
	{raw(2, 3, most+1, 1), api.ErrRange},
	{raw(2, 3, 1, most+1), api.ErrRange},
	{raw(3, 3, most+1, 1, 1), api.ErrRange},
	{raw(3, 3, 1, most+1, 1), api.ErrRange},
	{raw(3, 3, 1, 1, most+1), api.ErrRange},
	// A round beyond the depth that is no count: ErrRange comes ahead of ErrField, and stands behind another fault too.
	{raw(0, 3, most+1), api.ErrRange},
	{raw(0, 3, 0, 0, math.MaxUint32), api.ErrRange},
	{raw(0, 3, 1, 0, most+1), api.ErrRange},
	{raw(1, 3, 1, most+1), api.ErrRange},
	{raw(1, 3, 1, 1, most+1), api.ErrRange},
	{raw(2, 3, 1, 1, most+1), api.ErrRange},
	{raw(0, most+1, 1), api.ErrRange},
	{raw(1, 3, most+1, 1), api.ErrRange},
	{raw(0, 3, 1), api.ErrField},
	{raw(0, 3, 0, 1), api.ErrField},
	{raw(0, 3, 0, 0, 1), api.ErrField},
	{raw(0, most, most, most, most), api.ErrField},
	{raw(1, 3, 0, 1), api.ErrField},
	{raw(1, 3, 0, 0, most), api.ErrField},
	{raw(2, 3, 0, 0, 1), api.ErrField},
	{raw(2, 3, 1, 1, 1), api.ErrField},
}

// Promise 4.1: Check of each depth with the edges in each place.
func TestCheck(t *testing.T) {
	for _, x := range edges(0, 1, most-1, most) {
		if e := Check(x); e != api.OK {
			t.Errorf("Check(%v) = %d", x, e)
		}
	}
}

// Promise 4.1: what Check finds wrong first.
func TestCheckBad(t *testing.T) {
	for _, c := range bad {
		if e := Check(c.t); e != c.e {
			t.Errorf("Check(%v) = %d; want %d", c.t, e, c.e)
		}
	}
}

// Promise 4.1: Zero of each depth, and of what is none.
func TestZero(t *testing.T) {
	for depth, want := range []api.Time{at(0), at(0, 0), at(0, 0, 0), at(0, 0, 0, 0)} {
		if got, e := Zero(depth); got != want || e != api.OK {
			t.Errorf("Zero(%d) = %v, %d; want %v, 0", depth, got, e, want)
		}
	}
	for _, depth := range []int{math.MinInt, -4, -1, 4, 5, 1 << 32, 1<<32 + 1, math.MaxInt} {
		if got, e := Zero(depth); got != (api.Time{}) || e != api.ErrDepth {
			t.Errorf("Zero(%d) = %v, %d; want a zero Time, %d", depth, got, e, api.ErrDepth)
		}
	}
}

// checkLE holds LE both ways against what it should be.
func checkLE(t *testing.T, a, b api.Time, ab, ba bool) {
	t.Helper()
	if got := LE(a, b); got != ab {
		t.Errorf("LE(%v, %v) = %v", a, b, got)
	}
	if got := LE(b, a); got != ba {
		t.Errorf("LE(%v, %v) = %v", b, a, got)
	}
}

// Promise 4.1: LE of times that are less, equal, not comparable, and of different depths.
func TestLE(t *testing.T) {
	for _, c := range []struct {
		a, b   api.Time
		ab, ba bool
	}{
		{at(3, 1), at(3, 2), true, false},
		{at(3, 1), at(4, 0), false, false},
		{at(3, 1), at(4, 1), true, false},
		{at(3, 1), at(3, 1), true, true},
		{at(3), at(3), true, true},
		{at(3), at(4), true, false},
		{at(0), at(most), true, false},
		{at(most, most, most, most), at(most, most, most, most), true, true},
		{at(0, 0, 0, 0), at(most, most, most, most), true, false},
		{at(2, 9), at(10, 9), true, false},
		{at(1, 2, 3), at(1, 2, 4), true, false},
		{at(1, 2, 3), at(1, 3, 2), false, false},
		{at(1, 2, 3), at(2, 2, 2), false, false},
		{at(1, 2, 3, 4), at(1, 2, 3, 5), true, false},
		{at(1, 2, 3, 4), at(1, 2, 4, 3), false, false},
		{at(1, 2, 3, 4), at(1, 3, 2, 4), false, false},
		{at(1, 2, 3, 4), at(2, 2, 3, 3), false, false},
		{at(1, 2, 3, 4), at(2, 3, 4, 5), true, false},
		{at(3), at(3, 0), false, false},
		{at(3), at(4, 0), false, false},
		{at(3, 0), at(3, 0, 0), false, false},
		{at(0), at(0, 0, 0, 0), false, false},
		{at(3, 1), at(4, 1, 0, 0), false, false},
	} {
		checkLE(t, c.a, c.b, c.ab, c.ba)
	}
}

// Promise 4.1: LE of invalid times: a depth that is none is never less or equal, numbers that are no counts are
// compared all the same, and rounds beyond the depth are not.
func TestLEInvalid(t *testing.T) {
	for _, depth := range []int{math.MinInt, -1, 4, 1 << 32, math.MaxInt} {
		checkLE(t, raw(depth, 0), raw(depth, 0), false, false)
		checkLE(t, raw(depth, 1, 2, 3, 4), raw(depth, 2, 3, 4, 5), false, false)
		for good := range 4 {
			checkLE(t, raw(depth, 0), raw(good, 0), false, false)
		}
	}
	for _, c := range []struct {
		a, b   api.Time
		ab, ba bool
	}{
		{at(most + 1), at(most + 1), true, true},
		{at(most), at(most + 1), true, false},
		{at(1 << 31), at(math.MaxUint32), true, false},
		{at(1, most+1), at(1, most+2), true, false},
		{at(1, most+2), at(2, most+1), false, false},
		{at(0, 0, 0, 1<<31), at(0, 0, 0, math.MaxUint32), true, false},
		{raw(0, 3, 1), raw(0, 3), true, true},
		{raw(0, 3, 1, 2, 3), raw(0, 3, 3, 2, 1), true, true},
		{raw(0, 3, 0, 0, most+1), raw(0, 4), true, false},
		{raw(1, 3, 1, 9), raw(1, 3, 1, 0, 9), true, true},
		{raw(1, 3, 1, 9), raw(1, 3, 2, 0), true, false},
		{raw(2, 3, 1, 1, 9), raw(2, 3, 1, 1), true, true},
		{raw(2, 3, 1, 1, 9), raw(2, 3, 1, 2), true, false},
		{raw(0, 3, 1), raw(1, 3, 1), false, false},
	} {
		checkLE(t, c.a, c.b, c.ab, c.ba)
	}
}

// checkOrder tells whether each time of a list is less than all that follow it, and equal to itself.
func checkOrder(t *testing.T, l []api.Time) {
	t.Helper()
	for i, a := range l {
		for j, b := range l {
			want := 0
			if i < j {
				want = -1
			} else if i > j {
				want = 1
			}
			if got := Compare(a, b); got != want {
				t.Errorf("Compare(%v, %v) = %d; want %d", a, b, got, want)
			}
		}
	}
}

// Promise 4.1: the depth goes ahead of the epoch, and that ahead of the rounds, the outermost one first.
func TestCompare(t *testing.T) {
	checkOrder(t, []api.Time{
		at(0), at(1), at(2), at(10), at(most - 1), at(most),
		at(0, 0), at(0, 1), at(0, most), at(3, 1), at(3, 2), at(3, 10), at(4, 0), at(most, most),
		at(0, 0, 0), at(0, 0, 1), at(0, 0, most), at(0, 1, 0), at(0, 9, 10), at(0, 10, 9), at(1, 0, 0), at(most, 0, 0),
		at(0, 0, 0, 0), at(0, 0, 0, 1), at(0, 0, 1, 0), at(0, 1, 0, 0), at(0, 1, 2, 3), at(0, 1, 3, 2), at(0, 3, 1, 2),
		at(1, 0, 0, 0), at(1, most, most, most), at(2, 0, 0, most), at(most, most, most, most),
	})
}

// Promise 4.1: Compare of invalid times asks the depth, the epoch, and all rounds, those beyond the depth too.
func TestCompareInvalid(t *testing.T) {
	checkOrder(t, []api.Time{
		raw(math.MinInt, 9, 9, 9, 9), raw(-1<<32, 0), raw(-2, 5), raw(-1, 0), raw(-1, 0, 0, 0, 1), raw(-1, 0, 1), raw(-1, 1),
		raw(0, 0), raw(0, 0, 0, 0, 1), raw(0, 0, 0, 1), raw(0, 0, 1), raw(0, 1), raw(0, most, 0, 0, most+1), raw(0, most+1),
		raw(0, 1<<31), raw(0, math.MaxUint32), raw(0, math.MaxUint32, 0, 0, 1),
		raw(1, 0, 0, 0, math.MaxUint32), raw(1, 0, 0, 1), raw(1, 0, 1), raw(1, 0, 1<<31), raw(1, 0, math.MaxUint32),
		raw(2, 0, 5, 6), raw(2, 0, 5, 6, 1), raw(2, 0, 5, 6, math.MaxUint32), raw(2, 0, 5, 7),
		raw(4, 0), raw(4, 0, 0, 0, 1), raw(4, 1), raw(5, 0), raw(1<<32, 0), raw(1<<32+1, 0), raw(math.MaxInt, 0),
	})
}

// numbers are the epoch and all rounds of a time.
func numbers(t api.Time) [4]uint32 { return [4]uint32{t.Epoch, t.Loop[0], t.Loop[1], t.Loop[2]} }

// checkMerge holds Join and Meet of two valid times of one depth against their definition.
func checkMerge(t *testing.T, a, b api.Time) {
	t.Helper()
	up, e := Join(a, b)
	down, f := Meet(a, b)
	if e != api.OK || f != api.OK || up.Depth != a.Depth || down.Depth != a.Depth {
		t.Fatalf("of %v and %v, Join is %v, %d and Meet %v, %d", a, b, up, e, down, f)
	}
	as, bs, ups, downs := numbers(a), numbers(b), numbers(up), numbers(down)
	for i := range as {
		if ups[i] != max(as[i], bs[i]) || downs[i] != min(as[i], bs[i]) {
			t.Errorf("of %v and %v, Join is %v and Meet %v", a, b, up, down)
		}
	}
}

// Promise 4.2: Join and Meet of times that are comparable or not, at each depth.
func TestJoinMeet(t *testing.T) {
	for _, c := range []struct{ a, b, up, down api.Time }{
		{at(3, 2), at(4, 0), at(4, 2), at(3, 0)},
		{at(3), at(4), at(4), at(3)},
		{at(0, most), at(most, 0), at(most, most), at(0, 0)},
		{at(1, 2, 3, 4), at(4, 3, 2, 1), at(4, 3, 3, 4), at(1, 2, 2, 1)},
		{at(5, 5, 5), at(5, 5, 5), at(5, 5, 5), at(5, 5, 5)},
	} {
		if got, e := Join(c.a, c.b); got != c.up || e != api.OK {
			t.Errorf("Join(%v, %v) = %v, %d; want %v, 0", c.a, c.b, got, e, c.up)
		}
		if got, e := Meet(c.a, c.b); got != c.down || e != api.OK {
			t.Errorf("Meet(%v, %v) = %v, %d; want %v, 0", c.a, c.b, got, e, c.down)
		}
	}
	for _, a := range few() {
		for _, b := range few() {
			if a.Depth == b.Depth {
				checkMerge(t, a, b)
			}
		}
	}
}

// wants tells whether a call answered this error and a zero Time.
func wants(t *testing.T, name string, got api.Time, e, want api.Errno) {
	t.Helper()
	if got != (api.Time{}) || e != want {
		t.Errorf("%s = %v, %d; want a zero Time, %d", name, got, e, want)
	}
}

// Promise 4.2: Join and Meet answer what is wrong with the first time, then with the second, then with the depths.
func TestJoinMeetErrors(t *testing.T) {
	for name, f := range map[string]func(a, b api.Time) (api.Time, api.Errno){"Join": Join, "Meet": Meet} {
		for _, c := range bad {
			for _, good := range []api.Time{at(3), at(3, 1), at(3, 1, 1), at(3, 1, 1, 1)} {
				got, e := f(c.t, good)
				wants(t, name+" of a bad one and a good one", got, e, c.e)
				got, e = f(good, c.t)
				wants(t, name+" of a good one and a bad one", got, e, c.e)
			}
			for _, d := range bad {
				got, e := f(c.t, d.t)
				wants(t, name+" of two bad ones", got, e, c.e)
			}
		}
		for _, a := range few() {
			for _, b := range few() {
				if a.Depth != b.Depth {
					got, e := f(a, b)
					wants(t, name+" of two depths", got, e, api.ErrDepth)
				}
			}
		}
	}
}

type step struct {
	from, to api.Time
	e        api.Errno
}

func checkSteps(t *testing.T, name string, f func(api.Time) (api.Time, api.Errno), steps []step) {
	t.Helper()
	for _, c := range steps {
		if got, e := f(c.from); got != c.to || e != c.e {
			t.Errorf("%s(%v) = %v, %d; want %v, %d", name, c.from, got, e, c.to, c.e)
		}
	}
	for _, c := range bad {
		got, e := f(c.t)
		wants(t, name+" of a bad one", got, e, c.e)
	}
}

// Promise 4.2: Enter of each depth, and of what is no time.
func TestEnter(t *testing.T) {
	checkSteps(t, "Enter", Enter, []step{
		{at(3, 1), at(3, 1, 0), api.OK},
		{at(0), at(0, 0), api.OK},
		{at(most), at(most, 0), api.OK},
		{at(1, 2), at(1, 2, 0), api.OK},
		{at(1, 2, 3), at(1, 2, 3, 0), api.OK},
		{at(most, most, most), at(most, most, most, 0), api.OK},
		{at(0, 0, 0, 0), api.Time{}, api.ErrDepth},
		{at(1, 2, 3, 4), api.Time{}, api.ErrDepth},
		{at(most, most, most, most), api.Time{}, api.ErrDepth},
	})
}

// Promise 4.2: Leave of each depth, and of what is no time.
func TestLeave(t *testing.T) {
	checkSteps(t, "Leave", Leave, []step{
		{at(3, 1, 1), at(3, 1), api.OK},
		{at(0, 0), at(0), api.OK},
		{at(3, most), at(3), api.OK},
		{at(1, 2, 3), at(1, 2), api.OK},
		{at(1, 2, 3, 4), at(1, 2, 3), api.OK},
		{at(most, most, most, most), at(most, most, most), api.OK},
		{at(0), api.Time{}, api.ErrDepth},
		{at(3), api.Time{}, api.ErrDepth},
		{at(most), api.Time{}, api.ErrDepth},
	})
}

// Promise 4.2: Next of each depth, at the greatest count, and of what is no time.
func TestNext(t *testing.T) {
	checkSteps(t, "Next", Next, []step{
		{at(3, 1, 0), at(3, 1, 1), api.OK},
		{at(0, 0), at(0, 1), api.OK},
		{at(3, 1), at(3, 2), api.OK},
		{at(1, 2, 3, 4), at(1, 2, 3, 5), api.OK},
		{at(0, most-1), at(0, most), api.OK},
		{at(most, most, most, most-1), at(most, most, most, most), api.OK},
		{at(most, most, 0), at(most, most, 1), api.OK},
		{at(0, most), api.Time{}, api.ErrOver},
		{at(0, 0, most), api.Time{}, api.ErrOver},
		{at(0, 0, 0, most), api.Time{}, api.ErrOver},
		{at(0), api.Time{}, api.ErrDepth},
		{at(most), api.Time{}, api.ErrDepth},
	})
}

// Promise 4.2: Later by nothing, by much, and beyond the greatest count.
func TestLater(t *testing.T) {
	for _, c := range []struct {
		from api.Time
		n    uint32
		to   api.Time
		e    api.Errno
	}{
		{at(3), 0, at(3), api.OK},
		{at(3), 1, at(4), api.OK},
		{at(3, 1, 2, 3), 5, at(8, 1, 2, 3), api.OK},
		{at(0, most), most, at(most, most), api.OK},
		{at(most), 0, at(most), api.OK},
		{at(most-1, 1), 1, at(most, 1), api.OK},
		{at(1), most - 1, at(most), api.OK},
		{at(most), 1, api.Time{}, api.ErrOver},
		{at(1, 2), most, api.Time{}, api.ErrOver},
		{at(most, most), most, api.Time{}, api.ErrOver},
		{at(0), most + 1, api.Time{}, api.ErrRange},
		{at(most), most + 1, api.Time{}, api.ErrRange},
		{at(3, 1), math.MaxUint32, api.Time{}, api.ErrRange},
		{at(3, 1), 1 << 31, api.Time{}, api.ErrRange},
	} {
		if got, e := Later(c.from, c.n); got != c.to || e != c.e {
			t.Errorf("Later(%v, %d) = %v, %d; want %v, %d", c.from, c.n, got, e, c.to, c.e)
		}
	}
	for _, c := range bad {
		for _, n := range []uint32{0, 1, most, most + 1, math.MaxUint32} {
			got, e := Later(c.t, n)
			wants(t, "Later of a bad one", got, e, c.e)
		}
	}
}

// Promise 4.3: Text of each depth, with noughts and the greatest count.
func TestText(t *testing.T) {
	for _, c := range []struct {
		t    api.Time
		want string
	}{
		{at(0), "0"},
		{at(5), "5"},
		{at(most), "1048576"},
		{at(3, 1), "3.1"},
		{at(3, 1, 0), "3.1.0"},
		{at(0, 0, 0, 0), "0.0.0.0"},
		{at(10, 20, 300, 4000), "10.20.300.4000"},
		{at(most, most, most, most), "1048576.1048576.1048576.1048576"},
	} {
		if got, e := Text(c.t); got != c.want || e != api.OK {
			t.Errorf("Text(%v) = %q, %d; want %q, 0", c.t, got, e, c.want)
		}
	}
	for _, c := range bad {
		if got, e := Text(c.t); got != "" || e != c.e {
			t.Errorf("Text(%v) = %q, %d; want nothing, %d", c.t, got, e, c.e)
		}
	}
}

// Promise 4.3: Parse of a text of each depth, with noughts and the greatest count.
func TestParse(t *testing.T) {
	for _, c := range []struct {
		s    string
		want api.Time
	}{
		{"0", at(0)},
		{"5", at(5)},
		{"1048576", at(most)},
		{"3.1", at(3, 1)},
		{"3.0", at(3, 0)},
		{"3.1.0", at(3, 1, 0)},
		{"0.0.0.0", at(0, 0, 0, 0)},
		{"10.20.300.4000", at(10, 20, 300, 4000)},
		{"1048576.1048576.1048576.1048576", at(most, most, most, most)},
	} {
		if got, e := Parse(c.s); got != c.want || e != api.OK {
			t.Errorf("Parse(%q) = %v, %d; want %v, 0", c.s, got, e, c.want)
		}
	}
}

// noTexts are parts that no time's Text has.
func noTexts() []string {
	return []string{
		"", "01", "00", "007", "01048576", "-1", "-0", "+1", "+0", " 1", "1 ", "1\n", "\t1", "1_0", "1e3", "0x1", "0b1", "a", "1a", "x1",
		"1,2", "1:2", "1/2", "\x00", "1\x00", "\xFF", "\u0661", "\uFF11", "1048577", "1048580", "2000000", "9999999", "10485760",
		"4294967295", "4294967296", "4294967297", "18446744073709551616", "18446744073709551617", strings.Repeat("9", 40),
		strings.Repeat("0", 40), strings.Repeat("0", 40) + "1", strings.Repeat("1", 1<<16),
	}
}

// Promise 4.3: Parse of what no time's Text is, in each part of a text of each depth.
func TestParseBad(t *testing.T) {
	l := []string{
		".", "..", "...", "....", ".1", "1.", "1..2", "1.2.", ".1.2", "1.2..3", "1.2.3.", "1.2.3.4.", ".1.2.3", ".1.2.3.4", "1.2.3..",
		"1.2.3.4.5", "0.0.0.0.0", "1.2.3.4.5.6", "1. 2", "1 .2", "1, 2", "{1}", "1.2\n", strings.Repeat("1.", 1<<15), strings.Repeat(".", 1<<16),
	}
	for _, part := range noTexts() {
		for depth := range 4 {
			for i := range depth + 1 {
				parts := []string{"3", "1", "0", "2"}[:depth+1]
				parts[i] = part
				l = append(l, strings.Join(parts, "."))
			}
		}
	}
	for _, s := range l {
		got, e := Parse(s)
		wants(t, "Parse of "+s[:min(len(s), 60)], got, e, api.ErrField)
	}
}

// Promise 4.3: Write of each depth, with noughts and the greatest count.
func TestWrite(t *testing.T) {
	for _, c := range []struct {
		t    api.Time
		want string
	}{
		{at(0), "\x00\x00"},
		{at(3), "\x00\x03"},
		{at(most), "\x00\x80\x80\x40"},
		{at(3, 1), "\x01\x03\x01"},
		{at(300, 1, 0), "\x02\xAC\x02\x01\x00"},
		{at(1, 2, 3, 4), "\x03\x01\x02\x03\x04"},
		{at(0, 0, 0, 0), "\x03\x00\x00\x00\x00"},
		{at(most, 0, 127, 128), "\x03\x80\x80\x40\x00\x7F\x80\x01"},
	} {
		if got, e := Write(c.t); got != c.want || e != api.OK {
			t.Errorf("Write(%v) = % X, %d; want % X, 0", c.t, got, e, c.want)
		}
	}
	for _, c := range bad {
		if got, e := Write(c.t); got != "" || e != c.e {
			t.Errorf("Write(%v) = % X, %d; want nothing, %d", c.t, got, e, c.e)
		}
	}
}

// checkRead reads one time, and holds it, the reader's error and what is left against what they should be.
func checkRead(t *testing.T, s string, want api.Time, e api.Errno, left int) {
	t.Helper()
	r := code.New(s)
	if got := Read(r); got != want || r.Err() != e || r.Left() != left {
		t.Errorf("Read of % X = %v with error %d and %d left; want %v, %d, %d", s, got, r.Err(), r.Left(), want, e, left)
	}
}

// Promise 4.3: Read of each depth, ahead of nothing and of other bytes.
func TestRead(t *testing.T) {
	for _, tail := range []string{"", "\x00", "\x80", "\x80\x00", "\x05abc"} {
		checkRead(t, "\x00\x00"+tail, at(0), api.OK, len(tail))
		checkRead(t, "\x00\x80\x80\x40"+tail, at(most), api.OK, len(tail))
		checkRead(t, "\x01\x03\x00"+tail, at(3, 0), api.OK, len(tail))
		checkRead(t, "\x02\xAC\x02\x01\x00"+tail, at(300, 1, 0), api.OK, len(tail))
		checkRead(t, "\x03\x01\x02\x03\x04"+tail, at(1, 2, 3, 4), api.OK, len(tail))
		checkRead(t, "\x03\x00\x80\x80\x40\x80\x80\x40\x80\x80\x40"+tail, at(0, most, most, most), api.OK, len(tail))
	}
	r := code.New("\x01\x03\x01\x00\x05\x02\x01\x02\x03")
	for _, want := range []api.Time{at(3, 1), at(5), at(1, 2, 3)} {
		if got := Read(r); got != want || r.Err() != api.OK {
			t.Errorf("Read = %v with error %d; want %v", got, r.Err(), want)
		}
	}
	if e := r.End(); e != api.OK {
		t.Errorf("End = %d", e)
	}
}

// Promise 4.3: Read of a number beyond its bound, in each place; what stands ahead of it, and itself, is consumed.
func TestReadRange(t *testing.T) {
	none := api.Time{}
	const tail = "\x01\x01\x01\x01"
	for _, depth := range []uint64{4, 5, 127, 128, 1 << 32, 1<<32 + 1, math.MaxUint64} {
		checkRead(t, code.Num(depth)+tail, none, api.ErrRange, len(tail))
	}
	for _, v := range []uint64{most + 1, 1 << 21, 1 << 32, 1<<32 + 1, 1 << 63, math.MaxUint64} {
		s := code.Num(v) + tail
		checkRead(t, "\x00"+s, none, api.ErrRange, len(tail))
		checkRead(t, "\x01"+s, none, api.ErrRange, len(tail))
		checkRead(t, "\x01\x03"+s, none, api.ErrRange, len(tail))
		checkRead(t, "\x03\x03"+s, none, api.ErrRange, len(tail))
		checkRead(t, "\x03\x03\x01"+s, none, api.ErrRange, len(tail))
		checkRead(t, "\x03\x03\x01\x01"+s, none, api.ErrRange, len(tail))
	}
}

// Promise 4.3: Read of bytes that are cut off, and of a number that is wrong, in each place.
func TestReadBad(t *testing.T) {
	none := api.Time{}
	for _, x := range edges(0, 300, most) {
		s, _ := Write(x)
		for n := range len(s) {
			r := code.New(s[:n])
			if got := Read(r); got != none || r.Err() != api.ErrShort {
				t.Errorf("Read of % X = %v with error %d", s[:n], got, r.Err())
			}
		}
	}
	for _, head := range []string{"", "\x00", "\x01\x03", "\x02\x03\x01", "\x03\x03\x01\x01"} {
		for _, wrong := range []string{"\x80\x00", "\x81\x80\x00", strings.Repeat("\xFF", 9) + "\x02"} {
			checkRead(t, head+wrong, none, api.ErrField, len(wrong))
		}
	}
}

// Promise 4.3: Read from a reader that has an error already reads nothing, and the error stays.
func TestReadFailed(t *testing.T) {
	for _, s := range []string{"", "\x00\x03", "\x03\x01\x02\x03\x04", "\x09"} {
		r := code.New(s)
		r.Fail(api.ErrSum)
		if got := Read(r); got != (api.Time{}) || r.Err() != api.ErrSum || r.Left() != len(s) {
			t.Errorf("Read of % X = %v with error %d and %d left", s, got, r.Err(), r.Left())
		}
	}
}

// Promise 4.4: LE is reflexive, antisymmetric and transitive, and Compare does not contradict it.
func TestOrders(t *testing.T) {
	l := edges(0, 1, most)
	for _, a := range l {
		if !LE(a, a) || Compare(a, a) != 0 {
			t.Errorf("%v is not equal to itself", a)
		}
		for _, b := range l {
			if LE(a, b) && LE(b, a) && a != b {
				t.Errorf("%v and %v are each less than or equal to the other", a, b)
			}
			if LE(a, b) && Compare(a, b) > 0 || Compare(a, b) != -Compare(b, a) {
				t.Errorf("the order of %v and %v contradicts LE or itself", a, b)
			}
			for _, c := range l {
				if LE(a, b) && LE(b, c) && !LE(a, c) {
					t.Errorf("LE is not transitive: %v, %v, %v", a, b, c)
				}
				if Compare(a, b) < 0 && Compare(b, c) < 0 && Compare(a, c) >= 0 {
					t.Errorf("Compare is not transitive: %v, %v, %v", a, b, c)
				}
			}
		}
	}
}

// Promise 4.4: what is behind two times is behind their Join, and what is ahead of two is ahead of their Meet.
func TestBounds(t *testing.T) {
	l := edges(0, 1, most)
	for _, a := range l {
		for _, b := range l {
			if a.Depth != b.Depth {
				continue
			}
			up, _ := Join(a, b)
			down, _ := Meet(a, b)
			for _, c := range l {
				if (LE(a, c) && LE(b, c)) != LE(up, c) {
					t.Errorf("%v is not the least upper bound of %v and %v: %v", up, a, b, c)
				}
				if (LE(c, a) && LE(c, b)) != LE(c, down) {
					t.Errorf("%v is not the greatest lower bound of %v and %v: %v", down, a, b, c)
				}
			}
		}
	}
}

// Promise 4.4: Leave takes back what Enter did, also behind Next.
func TestLeaveInvertsEnter(t *testing.T) {
	for _, a := range few() {
		if a.Depth == api.MaxDepth {
			continue
		}
		in, e := Enter(a)
		next, f := Next(in)
		if e != api.OK || f != api.OK {
			t.Errorf("Enter of %v has error %d, and Next of that %d", a, e, f)
		}
		for _, inner := range []api.Time{in, next} {
			if out, e := Leave(inner); out != a || e != api.OK {
				t.Errorf("Leave(%v) = %v, %d; want %v", inner, out, e, a)
			}
		}
	}
}

// Promise 4.4: Parse takes back what Text did, and Read what Write did.
func TestInverse(t *testing.T) {
	for _, a := range edges(0, 1, 9, 10, 127, 128, 99999, most-1, most) {
		text, e := Text(a)
		if back, f := Parse(text); back != a || e != api.OK || f != api.OK {
			t.Errorf("Parse(%q) = %v; want %v; errors %d, %d", text, back, a, e, f)
		}
		bytes, e := Write(a)
		r := code.New(bytes)
		if back := Read(r); back != a || e != api.OK || r.End() != api.OK {
			t.Errorf("Read of % X = %v; want %v; errors %d, %d", bytes, back, a, e, r.Err())
		}
	}
}

// Promise 4.4: a text that Parse takes is its time's Text, and its numbers are those of the text.
func TestParseTakesOnlyTexts(t *testing.T) {
	letters := "019.+- x"
	for i := range len(letters) * len(letters) * len(letters) * len(letters) {
		s := ""
		for rest := i; rest > 0; rest /= len(letters) {
			s += letters[rest%len(letters) : rest%len(letters)+1]
		}
		got, e := Parse(s)
		if e != api.OK {
			wants(t, "Parse of "+s, got, e, api.ErrField)
			continue
		}
		if back, _ := Text(got); back != s {
			t.Errorf("Parse(%q) = %v, whose Text is %q", s, got, back)
		}
		ns := numbers(got)
		for j, part := range strings.Split(s, ".") {
			if v, ok := new(big.Int).SetString(part, 10); !ok || v.Cmp(big.NewInt(int64(ns[j]))) != 0 {
				t.Errorf("Parse(%q) = %v", s, got)
			}
		}
	}
}
