package data

import (
	"encoding/binary"
	"math"
	"math/rand"
	"regexp"
	"slices"
	"strings"
	"testing"

	"watershed/api"
	"watershed/code"
	"watershed/num"
)

const most = api.MaxCount

// list are records with these keys and values, by turns.
func list(numbers ...int64) []api.Record {
	l := []api.Record{}
	for i := 0; i < len(numbers); i += 2 {
		l = append(l, api.Record{Key: numbers[i], Val: numbers[i+1]})
	}
	return l
}

// at is a time with this epoch and these rounds.
func at(epoch uint32, rounds ...uint32) api.Time {
	t := api.Time{Epoch: epoch, Depth: len(rounds)}
	copy(t.Loop[:], rounds)
	return t
}

// raw is a time of any kind, valid or not.
func raw(depth int, epoch uint32, rounds ...uint32) api.Time {
	t := at(epoch, rounds...)
	t.Depth = depth
	return t
}

// many are so many records, of which each is another one and some keys are there again and again.
func many(n int) []api.Record {
	l := []api.Record{}
	for i := range n {
		l = append(l, api.Record{Key: int64(i*7%31) - 15, Val: int64(i) - 40})
	}
	return l
}

// edges are numbers of both signs where an encoding becomes a byte longer, and the ends of the type.
func edges() []int64 {
	l := []int64{0, 300, math.MinInt64, math.MinInt64 + 1, math.MaxInt64 - 1, math.MaxInt64}
	for shift := range 63 {
		v := int64(1) << shift
		l = append(l, v-1, v, v+1, -v, -v-1)
	}
	return l
}

// some are few records of which each two differ in the key, in the value, or in both.
func some() []api.Record {
	return list(1, 3, 1, 5, 2, 1, -1, 3, math.MinInt64, math.MaxInt64, math.MaxInt64, math.MinInt64)
}

// lists are all lists of at most n of some records.
func lists(l []api.Record, n int) [][]api.Record {
	out := [][]api.Record{{}}
	for from := 0; n > 0; n-- {
		to := len(out)
		for _, head := range out[from:to] {
			for _, x := range l {
				out = append(out, append(slices.Clone(head), x))
			}
		}
		from = to
	}
	return out
}

// tally is how often each record is there.
func tally(l []api.Record) map[api.Record]int {
	counts := map[api.Record]int{}
	for _, x := range l {
		counts[x]++
	}
	return counts
}

// sameTally tells whether each record is there equally often in both lists.
func sameTally(a, b []api.Record) bool {
	x, y := tally(a), tally(b)
	if len(x) != len(y) {
		return false
	}
	for k, n := range x {
		if y[k] != n {
			return false
		}
	}
	return true
}

// inOrder tells whether none of some records stands behind a greater one.
func inOrder(l []api.Record) bool {
	for i := range len(l) - 1 {
		a, b := l[i], l[i+1]
		if a.Key > b.Key || a.Key == b.Key && a.Val > b.Val {
			return false
		}
	}
	return true
}

// badTimes are times that are none, and what is wrong with them first.
var badTimes = []struct {
	t api.Time
	e api.Errno
}{
	{raw(-1, 0), api.ErrDepth},
	{raw(4, 0), api.ErrDepth},
	{raw(math.MinInt, most+1), api.ErrDepth},
	{raw(math.MaxInt, 0, 1), api.ErrDepth},
	{raw(0, most+1), api.ErrRange},
	{raw(1, math.MaxUint32, 1), api.ErrRange},
	{raw(1, 0, most+1), api.ErrRange},
	{raw(3, 0, 1, 1, most+1), api.ErrRange},
	{raw(0, 0, 1, most+1), api.ErrRange},
	{raw(0, 0, 1), api.ErrField},
	{raw(2, 0, 1, 1, 1), api.ErrField},
}

// goodTimes are times of each depth, with edges in them.
var goodTimes = []api.Time{at(0), at(7), at(most), at(3, 1), at(0, most), at(3, 1, 2), at(most, 0, most), at(0, 0, 0, 0), at(most, most, most, most)}

// badLocs are no locations of a batch.
var badLocs = []int{math.MinInt, -1001, -1, 1001, 1002, 1 << 16, 1 << 32, 1<<32 + 1, math.MaxInt}

// Promise 11.1: Check of locations, times and numbers of records at their edges.
func TestCheck(t *testing.T) {
	for _, loc := range []int{0, 1, 2, 127, 128, 999, 1000} {
		for _, x := range goodTimes {
			for _, n := range []int{1, 2, 63, 64} {
				if e := Check(Batch{Loc: loc, T: x, L: many(n)}); e != api.OK {
					t.Errorf("Check of the location %d, the time %v and %d records = %d", loc, x, n, e)
				}
			}
		}
	}
}

// badBatch is a batch that is none, and what is wrong with it first.
type badBatch struct {
	b Batch
	e api.Errno
}

// badBatches are those with a location, a time or a number of records that is wrong, also with others behind it that are.
func badBatches() []badBatch {
	var out []badBatch
	lengths := []int{0, 1, 64, 65, 66, 128, 5000}
	for _, n := range lengths {
		l := many(n)
		for _, loc := range badLocs {
			out = append(out, badBatch{Batch{loc, at(3, 1), l}, api.ErrRange})
			for _, bad := range badTimes {
				out = append(out, badBatch{Batch{loc, bad.t, l}, api.ErrRange})
			}
		}
		for _, loc := range []int{0, 5, 1000} {
			for _, bad := range badTimes {
				out = append(out, badBatch{Batch{loc, bad.t, l}, bad.e})
			}
			for _, x := range goodTimes {
				if n == 0 {
					out = append(out, badBatch{Batch{loc, x, l}, api.ErrNone}, badBatch{Batch{loc, x, nil}, api.ErrNone})
				}
				if n > 64 {
					out = append(out, badBatch{Batch{loc, x, l}, api.ErrLong})
				}
			}
		}
	}
	return append(out, badBatch{Batch{}, api.ErrNone})
}

// Promises 11.1 and 11.3: what Check finds wrong first; Write tells the same, and nothing beside it.
func TestBadBatches(t *testing.T) {
	for _, c := range badBatches() {
		if e := Check(c.b); e != c.e {
			t.Errorf("Check of the location %d, the time %v and %d records = %d; want %d", c.b.Loc, c.b.T, len(c.b.L), e, c.e)
		}
		if s, e := Write(c.b); s != "" || e != c.e {
			t.Errorf("Write of the location %d, the time %v and %d records = %q, %d; want nothing, %d", c.b.Loc, c.b.T, len(c.b.L), s, e, c.e)
		}
	}
}

// Promise 11.1: Order of the chapter's example, of nothing, of the ends of the type, and of records that are there again.
func TestOrder(t *testing.T) {
	const low, high = math.MinInt64, math.MaxInt64
	for _, c := range []struct{ l, want []api.Record }{
		{nil, nil},
		{list(), nil},
		{list(7, 7), list(7, 7)},
		{list(2, 1, 1, 5, 1, 3), list(1, 3, 1, 5, 2, 1)},
		{list(1, 3, 1, 5, 2, 1), list(1, 3, 1, 5, 2, 1)},
		{list(1, 5, 1, 3, 1, 5, 1, 3), list(1, 3, 1, 3, 1, 5, 1, 5)},
		{list(10, 0, 9, 0, -1, 0, -10, 0), list(-10, 0, -1, 0, 9, 0, 10, 0)},
		{list(0, 10, 0, 9, 0, -1, 0, -10), list(0, -10, 0, -1, 0, 9, 0, 10)},
		{list(high, low, low, high, 0, high, 0, low), list(low, high, 0, low, 0, high, high, low)},
		{list(low, high, high, low, high, high, low, low), list(low, low, low, high, high, low, high, high)},
		{list(1<<32, 1, 1, 1<<32, 0, 1), list(0, 1, 1, 1<<32, 1<<32, 1)},
	} {
		if got := Order(c.l); !slices.Equal(got, c.want) {
			t.Errorf("Order(%v) = %v; want %v", c.l, got, c.want)
		}
	}
}

// Promise 11.1: Order of all short lists of some records, and of long lists.
func TestOrderAll(t *testing.T) {
	all := append(lists(some(), 4), many(64), many(65), many(5000), slices.Repeat(list(3, 1, 1, 3), 3000))
	for _, l := range all {
		if got := Order(l); !inOrder(got) || !sameTally(got, l) {
			t.Fatalf("Order(%v) = %v", l, got)
		}
	}
}

// Promise 11.1: Same of lists that differ in their order, in how often a record is there, and in a key or a value.
func TestSame(t *testing.T) {
	for _, c := range []struct {
		a, b []api.Record
		want bool
	}{
		{nil, nil, true},
		{nil, list(), true},
		{nil, list(0, 0), false},
		{list(1, 2), list(1, 2), true},
		{list(1, 2), list(2, 1), false},
		{list(1, 2), list(1, 3), false},
		{list(1, 2), list(0, 2), false},
		{list(1, 2), list(1, 2, 1, 2), false},
		{list(1, 2, 3, 4), list(3, 4, 1, 2), true},
		{list(1, 2, 3, 4), list(1, 4, 3, 2), false},
		{list(1, 2, 1, 2, 3, 4), list(1, 2, 3, 4, 3, 4), false},
		{list(1, 2, 3, 4, 1, 2), list(3, 4, 1, 2, 1, 2), true},
		{list(math.MinInt64, 0), list(math.MaxInt64, 0), false},
		{many(500), Order(many(500)), true},
		{many(500), many(499), false},
		{many(500), append(many(499), list(0, 7)...), false},
	} {
		if got := Same(c.a, c.b); got != c.want {
			t.Errorf("Same(%v, %v) = %v", c.a, c.b, got)
		}
		if got := Same(c.b, c.a); got != c.want {
			t.Errorf("Same(%v, %v) = %v", c.b, c.a, got)
		}
	}
}

// Promise 11.1: Same of all pairs of short lists of some records.
func TestSameAll(t *testing.T) {
	all := lists(some()[:4], 4)
	for _, a := range all {
		for _, b := range all {
			if got, want := Same(a, b), sameTally(a, b); got != want {
				t.Fatalf("Same(%v, %v) = %v", a, b, got)
			}
		}
	}
}

// manyLists are lists of different lengths, short ones and those at the edges of a batch.
func manyLists() [][]api.Record {
	all := append(lists(some(), 2), nil)
	for _, n := range []int{3, 63, 64, 65, 127, 128, 129, 500} {
		all = append(all, many(n))
	}
	var each []api.Record
	for _, v := range edges() {
		each = append(each, api.Record{Key: v, Val: -v})
	}
	return append(all, each, slices.Repeat(list(5, 1, 6, 2), 100))
}

// ofPart are the records, in their order, whose keys go to the part i of n.
func ofPart(t *testing.T, l []api.Record, i, n int) []api.Record {
	t.Helper()
	var out []api.Record
	for _, x := range l {
		part, e := num.Part(x.Key, n)
		if e != api.OK {
			t.Fatalf("Part(%d, %d) = %d", x.Key, n, e)
		}
		if part == i {
			out = append(out, x)
		}
	}
	return out
}

// Promise 11.2: Spread into each number of parts: as many lists, each with the records of its part in their order.
func TestSpread(t *testing.T) {
	for _, l := range manyLists() {
		for n := 1; n <= 64; n++ {
			parts, e := Spread(l, n)
			if e != api.OK || len(parts) != n {
				t.Fatalf("Spread of %d records, %d = %d lists, %d", len(l), n, len(parts), e)
			}
			for i, part := range parts {
				if want := ofPart(t, l, i, n); !slices.Equal(part, want) {
					t.Fatalf("Spread(%v, %d)[%d] = %v; want %v", l, n, i, part, want)
				}
			}
		}
	}
}

// Promise 11.2: Spread into one part keeps the order; into three, it has the chapter's records, each once.
func TestSpreadExample(t *testing.T) {
	l := list(2, 1, 1, 5, 1, 3)
	one, e := Spread(l, 1)
	if e != api.OK || len(one) != 1 || !slices.Equal(one[0], l) {
		t.Errorf("Spread into 1 = %v, %d", one, e)
	}
	three, e := Spread(l, 3)
	if e != api.OK || len(three) != 3 || !sameTally(slices.Concat(three...), l) {
		t.Errorf("Spread into 3 = %v, %d", three, e)
	}
}

// Promise 11.2: Spread into what is no number of parts, also without records, has nothing beside its error.
func TestSpreadBad(t *testing.T) {
	for _, n := range []int{math.MinInt, -64, -1, 0, 65, 66, 128, 1 << 32, 1<<32 + 1, math.MaxInt} {
		for _, l := range [][]api.Record{nil, {}, list(1, 2), many(65)} {
			if got, e := Spread(l, n); len(got) != 0 || e != api.ErrRange {
				t.Errorf("Spread of %d records, %d = %v, %d; want nothing, %d", len(l), n, got, e, api.ErrRange)
			}
		}
	}
}

// Promise 11.2: Cut of lists of each length around the multiples of 64: all lists have 64 records, the last one the rest.
func TestCut(t *testing.T) {
	for _, c := range []struct {
		n    int
		want []int
	}{
		{0, nil},
		{1, []int{1}},
		{2, []int{2}},
		{63, []int{63}},
		{64, []int{64}},
		{65, []int{64, 1}},
		{127, []int{64, 63}},
		{128, []int{64, 64}},
		{129, []int{64, 64, 1}},
		{192, []int{64, 64, 64}},
		{6401, append(slices.Repeat([]int{64}, 100), 1)},
	} {
		l := many(c.n)
		cut := Cut(l)
		var sizes []int
		for _, piece := range cut {
			sizes = append(sizes, len(piece))
		}
		if !slices.Equal(sizes, c.want) || !slices.Equal(slices.Concat(cut...), l) {
			t.Errorf("Cut of %d records gives lists of %v, or other records; want %v", c.n, sizes, c.want)
		}
	}
	if got := Cut(nil); len(got) != 0 {
		t.Errorf("Cut(nil) = %v", got)
	}
}

// encoded are a batch's bytes as the chapter defines them, made with the library.
func encoded(b Batch) string {
	out := binary.AppendUvarint(nil, uint64(b.Loc))
	out = binary.AppendUvarint(out, uint64(b.T.Depth))
	out = binary.AppendUvarint(out, uint64(b.T.Epoch))
	for _, round := range b.T.Loop[:b.T.Depth] {
		out = binary.AppendUvarint(out, uint64(round))
	}
	out = binary.AppendUvarint(out, uint64(len(b.L)))
	for _, x := range b.L {
		out = binary.AppendVarint(out, x.Key)
		out = binary.AppendVarint(out, x.Val)
	}
	return string(out)
}

// goodBatches are batches with edges in each place.
func goodBatches() []Batch {
	out := []Batch{{0, at(0), list(0, 0)}, {1000, at(most, most, most, most), slices.Repeat(list(math.MinInt64, math.MaxInt64), 64)}}
	for _, loc := range []int{0, 1, 127, 128, 300, 1000} {
		for _, x := range goodTimes {
			for _, n := range []int{1, 2, 63, 64} {
				out = append(out, Batch{loc, x, many(n)})
			}
		}
	}
	for _, v := range edges() {
		out = append(out, Batch{4, at(3, 1), list(v, -1, 1, v, 0, 0, v, -v)})
	}
	return out
}

// Promise 11.3: Write in bytes, and of batches with edges in each place.
func TestWrite(t *testing.T) {
	b := Batch{300, at(3, 1), list(2, -1, -300, 0)}
	if s, e := Write(b); s != "\xAC\x02\x01\x03\x01\x02\x04\x01\xD7\x04\x00" || e != api.OK {
		t.Errorf("Write(%v) = % X, %d", b, s, e)
	}
	for _, b := range goodBatches() {
		if s, e := Write(b); s != encoded(b) || e != api.OK {
			t.Errorf("Write(%v) = % X, %d; want % X, 0", b, s, e, encoded(b))
		}
	}
}

// sameBatch tells whether two batches are equal, their records in the same order.
func sameBatch(a, b Batch) bool {
	return a.Loc == b.Loc && a.T == b.T && slices.Equal(a.L, b.L)
}

// checkRead holds what Read makes of bytes against what it should; beside an error, it is a zero Batch.
func checkRead(t *testing.T, s string, want Batch, e api.Errno, left int) {
	t.Helper()
	r := code.New(s)
	got := Read(r)
	if !sameBatch(got, want) || r.Err() != e || r.Left() != left {
		t.Errorf("Read of % X = %v, %d, %d left; want %v, %d, %d left", s, got, r.Err(), r.Left(), want, e, left)
	}
}

// Promises 11.3 and 11.4: Read inverts Write, and ends where the batch does.
func TestRead(t *testing.T) {
	for _, b := range goodBatches() {
		for _, tail := range []string{"", "\x00", "\x80", "abc"} {
			checkRead(t, encoded(b)+tail, b, api.OK, len(tail))
		}
	}
}

// Promises 11.3 and 11.4: Read inverts Write for batches one behind the other.
func TestReadSequence(t *testing.T) {
	var all strings.Builder
	for _, b := range goodBatches() {
		s, e := Write(b)
		if e != api.OK {
			t.Fatalf("Write(%v) = %d", b, e)
		}
		all.WriteString(s)
	}
	r := code.New(all.String())
	for _, b := range goodBatches() {
		if got := Read(r); !sameBatch(got, b) {
			t.Errorf("Read = %v; want %v", got, b)
		}
	}
	if e := r.End(); e != api.OK {
		t.Errorf("End = %d", e)
	}
}

// Promise 11.3: Read of a batch that is cut off anywhere, also where no record was read yet, has the reader's error.
func TestReadShort(t *testing.T) {
	for _, b := range []Batch{{300, at(3), list(2, -1, -300, 0)}, {0, at(0, 200, 0, most), list(0, 0)}, {1000, at(7), many(64)}} {
		s := encoded(b)
		for n := range len(s) {
			r := code.New(s[:n])
			if got := Read(r); !sameBatch(got, Batch{}) || r.Err() != api.ErrShort {
				t.Errorf("Read of % X = %v, %d; want nothing, %d", s[:n], got, r.Err(), api.ErrShort)
			}
		}
	}
}

// Promise 11.3: Read of numbers beyond their bounds, of what is no number, and of no records; the first error is told.
func TestReadBad(t *testing.T) {
	const record = "\x02\x04"
	for _, c := range []struct {
		s    string
		e    api.Errno
		left int
	}{
		{"\xE9\x07\x00\x00\x01" + record, api.ErrRange, 5},
		{"\xFF\xFF\xFF\xFF\xFF\xFF\xFF\xFF\xFF\x01\x00\x00\x01" + record, api.ErrRange, 5},
		{"\x80\x00\x00\x00\x01" + record, api.ErrField, 7},
		{"\x05\x04\x00\x01" + record, api.ErrRange, 4},
		{"\x05\x00\x81\x80\x40\x01" + record, api.ErrRange, 3},
		{"\x05\x01\x00\x81\x80\x40\x01" + record, api.ErrRange, 3},
		{"\x05\x00\x83\x00\x01" + record, api.ErrField, 5},
		{"\x05\x00\x03\x41" + record, api.ErrRange, 2},
		{"\x05\x00\x03\x41", api.ErrRange, 0},
		{"\x05\x00\x03\x41" + strings.Repeat(record, 65), api.ErrRange, 130},
		{"\x05\x00\x03\xFF\xFF\xFF\xFF\xFF\xFF\xFF\xFF\xFF\x01" + record, api.ErrRange, 2},
		{"\x05\x00\x03\x81\x00" + record, api.ErrField, 4},
		{"\x05\x00\x03\x00", api.ErrNone, 0},
		{"\x05\x00\x03\x00" + record, api.ErrNone, 2},
		{"\x00\x00\x00\x00", api.ErrNone, 0},
		{"\xE9\x07\x00\x03\x00", api.ErrRange, 3},
		{"\x05\x00\x81\x80\x40\x00", api.ErrRange, 1},
		{"\x05\x00\x03\x01\x80\x00\x04", api.ErrField, 3},
		{"\x05\x00\x03\x01\x02\x80\x00", api.ErrField, 2},
		{"\x05\x00\x03\x02" + record + "\x02\xFF\xFF\xFF\xFF\xFF\xFF\xFF\xFF\xFF\x02", api.ErrField, 10},
	} {
		checkRead(t, c.s, Batch{}, c.e, c.left)
	}
}

// Promise 11.3: Read with a reader that has an error reads nothing, and the error stays, whatever the bytes are.
func TestReadFailed(t *testing.T) {
	for _, s := range []string{"", "\x05\x00\x03\x00", encoded(Batch{300, at(3, 1), list(2, -1)})} {
		r := code.New(s)
		r.Fail(api.ErrSum)
		if got := Read(r); !sameBatch(got, Batch{}) || r.Err() != api.ErrSum || r.Left() != len(s) {
			t.Errorf("Read of % X behind an error = %v, %d, %d left", s, got, r.Err(), r.Left())
		}
	}
}

// Promise 11.3: what Read takes is what Write makes of it: of bytes of any kind, each changed in one place.
func TestReadOneEncoding(t *testing.T) {
	s := encoded(Batch{300, at(3, 1), list(2, -1, -300, 0)})
	for i := range len(s) {
		for b := range 256 {
			changed := s[:i] + string([]byte{byte(b)}) + s[i+1:]
			r := code.New(changed)
			got := Read(r)
			if r.Err() != api.OK {
				if !sameBatch(got, Batch{}) {
					t.Errorf("Read of % X = %v, %d", changed, got, r.Err())
				}
				continue
			}
			if again, e := Write(got); again != changed[:len(changed)-r.Left()] || e != api.OK {
				t.Errorf("Read of % X = %v, whose bytes are % X, %d", changed, got, again, e)
			}
		}
	}
}

// texts are records and how they are written.
func texts() []struct {
	l []api.Record
	s string
} {
	return []struct {
		l []api.Record
		s string
	}{
		{nil, "-"},
		{list(), "-"},
		{list(0, 0), "0:0"},
		{list(1, -2), "1:-2"},
		{list(-1, 2), "-1:2"},
		{list(-10, -20), "-10:-20"},
		{list(1, 3, 1, 5, 2, 1), "1:3,1:5,2:1"},
		{list(2, 1, 1, 5, 1, 5), "2:1,1:5,1:5"},
		{list(math.MinInt64, math.MaxInt64), "-9223372036854775808:9223372036854775807"},
		{list(math.MaxInt64, math.MinInt64, 0, 0), "9223372036854775807:-9223372036854775808,0:0"},
		{slices.Repeat(list(7, 8), 64), strings.Repeat("7:8,", 63) + "7:8"},
	}
}

// Promise 11.3: Text of records and of none, also of more than a batch may have.
func TestText(t *testing.T) {
	for _, c := range texts() {
		if got := Text(c.l); got != c.s {
			t.Errorf("Text(%v) = %q; want %q", c.l, got, c.s)
		}
	}
	for _, n := range []int{65, 128, 1000} {
		if got, want := Text(slices.Repeat(list(7, -8), n)), strings.Repeat("7:-8,", n-1)+"7:-8"; got != want {
			t.Errorf("Text of %d records = %q; want %q", n, got, want)
		}
	}
}

// checkParse holds what Parse makes of a text against what it should.
func checkParse(t *testing.T, s string, want []api.Record, e api.Errno) {
	t.Helper()
	if got, f := Parse(s); !slices.Equal(got, want) || f != e {
		t.Errorf("Parse(%q) = %v, %d; want %v, %d", s, got, f, want, e)
	}
}

// Promise 11.3: Parse inverts Text, up to 64 records, and of no records too.
func TestParse(t *testing.T) {
	for _, c := range texts() {
		checkParse(t, c.s, c.l, api.OK)
	}
	for _, l := range append(lists(some(), 3), many(1), many(63), many(64)) {
		checkParse(t, Text(l), l, api.OK)
	}
	for _, v := range edges() {
		checkParse(t, Text(list(v, -v, -v, v)), list(v, -v, -v, v), api.OK)
	}
}

// Promise 11.3: Parse of what is nobody's text.
func TestParseBad(t *testing.T) {
	for _, s := range []string{
		"", " ", ",", ":", "--", "-,", ",-", "-,-", "-,1:2", "1:2,-", "-:-", "1", "1:", ":1", "1,2", "1:2:3", "1::2", "1:2,", ",1:2",
		"1:2,,3:4", "1:2, 3:4", " 1:2", "1:2 ", "1 :2", "1: 2", "1:2\n", "\n1:2", "1:2\x00", "01:2", "1:02", "+1:2", "1:+2", "-0:1", "1:-0",
		"00:1", "--1:2", "1:--2", "1.0:2", "1e1:2", "0x1:2", "1_0:2", "a:b", "1;2", "1=2", "1:2;3:4", "1:2 3:4", "1:2\n3:4", "\xFF", "1:\xFF",
		"9223372036854775808:0", "0:9223372036854775808", "-9223372036854775809:0", "0:-9223372036854775809", "99999999999999999999:0",
		"\u0661:2", "1\uFF1A2", "1:2\uFF0C3:4", "\u22121:2", "- ", " -", "-\n",
		strings.Repeat(",", 100), strings.Repeat("-", 100), strings.Repeat("1:", 100), strings.Repeat("1", 100000),
	} {
		checkParse(t, s, nil, api.ErrField)
	}
}

// Promise 11.3: Parse of more than 64 records: ErrLong, unless one of them, also of those past the bound, is none.
func TestParseLong(t *testing.T) {
	for _, n := range []int{65, 66, 128, 129, 1000, 1 << 16} {
		s := strings.Repeat("1:2,", n-1)
		checkParse(t, s+"1:2", nil, api.ErrLong)
		checkParse(t, s+"-3:-4", nil, api.ErrLong)
		checkParse(t, s, nil, api.ErrField)
		checkParse(t, s+"1:02", nil, api.ErrField)
		checkParse(t, s+"-", nil, api.ErrField)
		checkParse(t, "x,"+s+"1:2", nil, api.ErrField)
		checkParse(t, s+"x,"+s+"1:2", nil, api.ErrField)
	}
	checkParse(t, strings.Repeat("1:2,", 63)+"x", nil, api.ErrField)
}

// Promise 11.3: Parse of all short strings of the bytes that texts consist of, held against what a text looks like.
func TestParseAll(t *testing.T) {
	const number = `(0|-?[1-9][0-9]*)`
	form := regexp.MustCompile(`^(-|` + number + `:` + number + `(,` + number + `:` + number + `)*)$`)
	all := []string{""}
	for from := 0; len(all[from]) < 7; {
		to := len(all)
		for _, head := range all[from:to] {
			for _, tail := range []string{"0", "1", "-", ":", ","} {
				all = append(all, head+tail)
			}
		}
		from = to
	}
	for _, s := range all {
		got, e := Parse(s)
		if !form.MatchString(s) {
			if len(got) != 0 || e != api.ErrField {
				t.Fatalf("Parse(%q) = %v, %d; want nothing, %d", s, got, e, api.ErrField)
			}
		} else if Text(got) != s || e != api.OK {
			t.Fatalf("Parse(%q) = %v, %d", s, got, e)
		}
	}
}

// Promise 11.4: Spread and Cut lose no records, and records with the same key stay together.
func TestNothingIsLost(t *testing.T) {
	random := rand.New(rand.NewSource(11))
	for range 300 {
		l := []api.Record{}
		for range random.Intn(300) {
			l = append(l, api.Record{Key: random.Int63n(40) - 20, Val: int64(random.Uint64())})
		}
		n := 1 + random.Intn(64)
		parts, e := Spread(l, n)
		if e != api.OK || !sameTally(slices.Concat(parts...), l) || !Same(slices.Concat(parts...), l) {
			t.Fatalf("Spread of %d records, %d: %d, or other records", len(l), n, e)
		}
		home := map[int64]int{}
		for i, part := range parts {
			for _, x := range part {
				if other, ok := home[x.Key]; ok && other != i {
					t.Fatalf("Spread, %d: the key %d in the lists %d and %d", n, x.Key, other, i)
				}
				home[x.Key] = i
			}
			if !slices.Equal(slices.Concat(Cut(part)...), part) {
				t.Fatalf("Cut of %d records has others", len(part))
			}
		}
	}
}

// roomy is a list of some records with others in its unused capacity, and a function that tells whether all are as they were.
func roomy(n int) ([]api.Record, func() bool) {
	whole := many(n + 70)
	before := slices.Clone(whole)
	return whole[:n], func() bool { return slices.Equal(whole, before) }
}

// Rule R4: no call changes its arguments, or what is in their unused capacity, and changes of a result do not reach them.
func TestArgumentsStay(t *testing.T) {
	for _, n := range []int{0, 1, 2, 63, 64, 65, 130} {
		l, isAsBefore := roomy(n)
		spread, _ := Spread(l, 3)
		for _, out := range append(append(spread, Order(l)), Cut(l)...) {
			out = append(out, list(-99, -99)...)
			for i := range out {
				out[i] = api.Record{Key: -77, Val: -77}
			}
		}
		Same(l, many(n))
		Same(many(n), l)
		Text(l)
		Check(Batch{3, at(1), l})
		Write(Batch{3, at(1), l})
		if !isAsBefore() {
			t.Errorf("a list of %d records was changed", n)
		}
	}
}

// checkApart grows each list as far as it goes, and overwrites it, and tells whether the others stay as they were.
func checkApart(t *testing.T, name string, l [][]api.Record) {
	t.Helper()
	before := [][]api.Record{}
	for _, part := range l {
		before = append(before, slices.Clone(part))
	}
	for i, part := range l {
		whole := part[:cap(part)]
		for k := range whole {
			whole[k] = api.Record{Key: -77, Val: -77}
		}
		for k, other := range l {
			if k > i && !slices.Equal(other, before[k]) {
				t.Errorf("%s: a change of the list %d reaches the list %d", name, i, k)
			}
			if k < i && slices.ContainsFunc(other, func(x api.Record) bool { return x != api.Record{Key: -77, Val: -77} }) {
				t.Errorf("%s: the list %d is not what was written to it", name, k)
			}
		}
	}
}

// Rule R4: no two lists of one result share memory, not even unused capacity, and two results share none.
func TestResultsAreApart(t *testing.T) {
	for _, n := range []int{1, 64, 65, 128, 129, 300} {
		l := many(n)
		for _, parts := range []int{1, 2, 3, 64} {
			one, _ := Spread(l, parts)
			two, _ := Spread(l, parts)
			checkApart(t, "Spread", append(one, two...))
		}
		checkApart(t, "Cut", append(Cut(l), Cut(l)...))
		checkApart(t, "Order", [][]api.Record{l, Order(l), Order(l), Order(Order(l))})
		s := Text(l[:min(n, 64)])
		one, _ := Parse(s)
		two, _ := Parse(s)
		checkApart(t, "Parse", [][]api.Record{one, two})
		b := encoded(Batch{3, at(1), l[:min(n, 64)]})
		checkApart(t, "Read", [][]api.Record{Read(code.New(b)).L, Read(code.New(b)).L})
	}
}
