package oper

import (
	"math"
	"math/big"
	"math/rand"
	"slices"
	"testing"

	"watershed/api"
	"watershed/graph"
)

const low, high = math.MinInt64, math.MaxInt64

// list are records with these keys and values, by turns.
func list(numbers ...int64) []api.Record {
	l := []api.Record{}
	for i := 0; i < len(numbers); i += 2 {
		l = append(l, api.Record{Key: numbers[i], Val: numbers[i+1]})
	}
	return l
}

// many are so many records, of which each is another one and some keys are there again and again.
func many(n int) []api.Record {
	l := []api.Record{}
	for i := range n {
		l = append(l, api.Record{Key: int64(i*7%31) - 15, Val: int64(i) - 40})
	}
	return l
}

// some are few records: two with the same key, two with the same value, and the ends of the type.
func some() []api.Record {
	return list(1, 3, 1, -5, 2, 3, -1, 4, low, high, high, low)
}

// lists are all lists of at most n of some records.
func lists(l []api.Record, n int) [][]api.Record {
	out := [][]api.Record{{}}
	for from := 0; n > 0; n-- {
		to := len(out)
		for _, head := range out[from:to] {
			for _, x := range l {
				out = append(out, append(slices.Clone(head), x))
			}
		}
		from = to
	}
	return out
}

// edges are numbers of both signs around 0, around powers of 2, around 1000, and at the ends of the type.
func edges() []int64 {
	l := []int64{low, low + 1, high - 1, high, -1001, -1000, -999, 999, 1000, 1001}
	for v := int64(-12); v <= 12; v++ {
		l = append(l, v)
	}
	for _, shift := range []int{31, 32, 33, 61, 62} {
		v := int64(1) << shift
		l = append(l, v-1, v, v+1, -v-1, -v, -v+1)
	}
	return l
}

// stateful are the kinds that keep records.
var stateful = []int{graph.Sum, graph.Count, graph.Least, graph.Most}

// noKinds are numbers of no kind, some of which are like one in their lower bits.
var noKinds = []int{math.MinInt, -14, -11, -1, 0, 15, 16, 100, 1<<8 + 11, 1<<32 + 11, 1<<32 + 3, math.MaxInt}

// plain are the kinds that process each record by itself.
func plain() []int {
	return []int{graph.Input, graph.Capture, graph.Map, graph.Filter, graph.Swap, graph.Rekey, graph.Enter, graph.Leave, graph.Next, graph.Delay}
}

// opers are operators of each kind, of those that keep records too, and of no kind, with numbers that a graph may have and others.
func opers() []graph.Op {
	var out []graph.Op
	for _, kind := range slices.Concat(plain(), stateful, noKinds) {
		for _, n := range []struct{ a, b int64 }{{0, 0}, {1, 0}, {2, 1}, {5, 1}, {5, 4}, {1000, 999}, {3, 3}, {2, -1}, {-5, 1}, {low, high}, {high, low}} {
			out = append(out, graph.Op{Name: "x", Kind: kind, Loop: -1, A: n.a, B: n.b})
		}
	}
	return out
}

// Promise 12.1: Keeps of each kind and of what is none.
func TestKeeps(t *testing.T) {
	for _, kind := range stateful {
		if !Keeps(kind) {
			t.Errorf("Keeps(%d) = false", kind)
		}
	}
	for _, kind := range slices.Concat(plain(), noKinds) {
		if Keeps(kind) {
			t.Errorf("Keeps(%d) = true", kind)
		}
	}
	for kind := -1000; kind <= 1000; kind++ {
		if got, want := Keeps(kind), 11 <= kind && kind <= 14; got != want {
			t.Errorf("Keeps(%d) = %v", kind, got)
		}
	}
}

// checkOne holds what One makes of a record against what it should; there is no record beside false.
func checkOne(t *testing.T, o graph.Op, x, want api.Record, ok bool) {
	t.Helper()
	if got, found := One(o, x); got != want || found != ok {
		t.Errorf("One of the kind %d with %d and %d, %v = %v, %v; want %v, %v", o.Kind, o.A, o.B, x, got, found, want, ok)
	}
}

// Promise 12.1: One of the kinds that make something of a record, the chapter's examples among them.
func TestOne(t *testing.T) {
	for _, c := range []struct {
		kind       int
		a, b       int64
		key, val   int64
		key2, val2 int64
		ok         bool
	}{
		{graph.Map, 2, 1, 7, 3, 7, 7, true},
		{graph.Map, 2, 1, 1, 2, 1, 5, true},
		{graph.Map, 0, 0, 7, 3, 7, 0, true},
		{graph.Map, 1, 0, -7, -3, -7, -3, true},
		{graph.Map, -1, 0, 7, low, 7, low, true},
		{graph.Map, 1, 1, 7, high, 7, low, true},
		{graph.Map, 2, 0, 7, high, 7, -2, true},
		{graph.Map, high, high, 7, high, 7, low, true},
		{graph.Filter, 5, 1, 0, -4, 0, -4, true},
		{graph.Filter, 5, 1, 9, 6, 9, 6, true},
		{graph.Filter, 5, 1, 1, 5, 0, 0, false},
		{graph.Filter, 5, 1, 1, -1, 0, 0, false},
		{graph.Filter, 5, 4, 1, -1, 1, -1, true},
		{graph.Filter, 5, -1, 1, -1, 0, 0, false},
		{graph.Filter, 1, 0, high, low, high, low, true},
		{graph.Filter, 0, 0, 3, 0, 0, 0, false},
		{graph.Filter, -5, 0, 3, 5, 0, 0, false},
		{graph.Filter, -5, 1, 3, 6, 0, 0, false},
		{graph.Swap, 0, 0, 1, 2, 2, 1, true},
		{graph.Swap, 5, 1, low, high, high, low, true},
		{graph.Rekey, 2, 0, 1, 2, 0, 2, true},
		{graph.Rekey, 2, 0, 2, 5, 1, 5, true},
		{graph.Rekey, 3, 0, 9, -7, 2, -7, true},
		{graph.Rekey, 1000, 7, 9, -1, 999, -1, true},
		{graph.Rekey, 0, 0, 9, 3, 0, 0, false},
		{graph.Rekey, -2, 0, 9, 3, 0, 0, false},
	} {
		o := graph.Op{Name: "x", Kind: c.kind, Loop: -1, A: c.a, B: c.b}
		checkOne(t, o, api.Record{Key: c.key, Val: c.val}, api.Record{Key: c.key2, Val: c.val2}, c.ok)
	}
}

// wrapped is a number modulo 2^64, as a signed one.
func wrapped(v *big.Int) int64 {
	return int64(new(big.Int).Mod(v, new(big.Int).Lsh(big.NewInt(1), 64)).Uint64())
}

// remainder is what is left of a value divided downwards by what is at least 1.
func remainder(v, d int64) int64 {
	return new(big.Int).Mod(big.NewInt(v), big.NewInt(d)).Int64()
}

// Promise 12.1: a Map with edges for both numbers and the value, held against numbers without bounds.
func TestOneMap(t *testing.T) {
	for _, a := range edges() {
		for _, b := range edges() {
			for _, v := range edges() {
				want := new(big.Int).Mul(big.NewInt(a), big.NewInt(v))
				want.Add(want, big.NewInt(b))
				checkOne(t, graph.Op{Kind: graph.Map, A: a, B: b}, api.Record{Key: a, Val: v}, api.Record{Key: a, Val: wrapped(want)}, true)
			}
		}
	}
}

// Promise 12.1: a Filter with edges for both numbers and the value: the record as it is, or none.
func TestOneFilter(t *testing.T) {
	for _, a := range edges() {
		for _, b := range edges() {
			for _, v := range edges() {
				o, x := graph.Op{Kind: graph.Filter, A: a, B: b}, api.Record{Key: b, Val: v}
				if a >= 1 && remainder(v, a) == b {
					checkOne(t, o, x, x, true)
				} else {
					checkOne(t, o, x, api.Record{}, false)
				}
			}
		}
	}
}

// Promise 12.1: a Filter has each value for exactly one remainder.
func TestOneFilterOnce(t *testing.T) {
	for _, a := range []int64{1, 2, 3, 7, 64, 1000} {
		for _, v := range edges() {
			n := 0
			for b := -a; b <= 2*a; b++ {
				if _, ok := One(graph.Op{Kind: graph.Filter, A: a, B: b}, api.Record{Val: v}); ok {
					n++
				}
			}
			if n != 1 {
				t.Errorf("a Filter with %d has %d for %d remainders", a, v, n)
			}
		}
	}
}

// Promise 12.1: a Rekey with edges for both numbers and the value; B and the old key have no effect.
func TestOneRekey(t *testing.T) {
	for _, a := range edges() {
		for _, b := range edges() {
			for _, v := range edges() {
				o, x := graph.Op{Kind: graph.Rekey, A: a, B: b}, api.Record{Key: b, Val: v}
				if a >= 1 {
					checkOne(t, o, x, api.Record{Key: remainder(v, a), Val: v}, true)
				} else {
					checkOne(t, o, x, api.Record{}, false)
				}
			}
		}
	}
}

// Promise 12.1: a Swap, whatever its numbers are; twice, it is the record again.
func TestOneSwap(t *testing.T) {
	for _, k := range edges() {
		for _, v := range edges() {
			o := graph.Op{Kind: graph.Swap, A: k, B: v}
			checkOne(t, o, api.Record{Key: k, Val: v}, api.Record{Key: v, Val: k}, true)
			y, _ := One(o, api.Record{Key: k, Val: v})
			checkOne(t, o, y, api.Record{Key: k, Val: v}, true)
		}
	}
}

// Promise 12.1: all other kinds, also those that keep records and what is none, leave a record as it is, whatever their numbers are.
func TestOneOthers(t *testing.T) {
	makes := []int{graph.Map, graph.Filter, graph.Swap, graph.Rekey}
	n := 0
	for _, o := range opers() {
		if slices.Contains(makes, o.Kind) {
			continue
		}
		n++
		for _, v := range edges() {
			checkOne(t, o, api.Record{Key: v, Val: 7}, api.Record{Key: v, Val: 7}, true)
			checkOne(t, o, api.Record{Key: 7, Val: v}, api.Record{Key: 7, Val: v}, true)
		}
	}
	if n == 0 {
		t.Error("there are no other kinds")
	}
}

// Promise 12.1: what an operator's name, loop and cluster are has no effect, even if they are none.
func TestOneByKind(t *testing.T) {
	for _, o := range opers() {
		for _, x := range some() {
			want, ok := One(o, x)
			for _, n := range []int{math.MinInt, -2, -1, 0, 5, math.MaxInt} {
				checkOne(t, graph.Op{Name: "", Kind: o.Kind, Loop: n, At: -n, A: o.A, B: o.B}, x, want, ok)
				checkOne(t, graph.Op{Name: "No name", Kind: o.Kind, Loop: -n, At: n, A: o.A, B: o.B}, x, want, ok)
			}
		}
	}
}

// Promise 12.1: Each of the chapter's examples, of nothing, and where nothing is left.
func TestEach(t *testing.T) {
	l := list(1, 2, 2, 5, 1, 3)
	for _, c := range []struct {
		o       graph.Op
		l, want []api.Record
	}{
		{graph.Op{Kind: graph.Map, A: 2, B: 1}, l, list(1, 5, 2, 11, 1, 7)},
		{graph.Op{Kind: graph.Rekey, A: 2}, l, list(0, 2, 1, 5, 1, 3)},
		{graph.Op{Kind: graph.Swap}, l, list(2, 1, 5, 2, 3, 1)},
		{graph.Op{Kind: graph.Filter, A: 2, B: 1}, l, list(2, 5, 1, 3)},
		{graph.Op{Kind: graph.Filter, A: 2, B: 0}, l, list(1, 2)},
		{graph.Op{Kind: graph.Filter, A: 7, B: 6}, l, nil},
		{graph.Op{Kind: graph.Filter, A: 1, B: 0}, l, l},
		{graph.Op{Kind: graph.Filter}, l, nil},
		{graph.Op{Kind: graph.Rekey}, l, nil},
		{graph.Op{Kind: graph.Map}, l, list(1, 0, 2, 0, 1, 0)},
		{graph.Op{Kind: graph.Sum}, l, l},
		{graph.Op{Kind: graph.Capture}, l, l},
		{graph.Op{}, l, l},
		{graph.Op{Kind: graph.Swap}, list(2, 1, 1, 1, 2, 1), list(1, 2, 1, 1, 1, 2)},
		{graph.Op{Kind: graph.Map, A: 2, B: 1}, nil, nil},
		{graph.Op{Kind: graph.Sum}, list(), nil},
	} {
		if got := Each(c.o, c.l); !slices.Equal(got, c.want) {
			t.Errorf("Each of the kind %d with %d and %d, %v = %v; want %v", c.o.Kind, c.o.A, c.o.B, c.l, got, c.want)
		}
	}
}

// oneByOne are the results of One that there are, in order.
func oneByOne(o graph.Op, l []api.Record) []api.Record {
	out := []api.Record{}
	for _, x := range l {
		if y, ok := One(o, x); ok {
			out = append(out, y)
		}
	}
	return out
}

// Promise 12.1: Each of operators of all kinds, of all short lists of some records and of long ones, held against One.
func TestEachAll(t *testing.T) {
	all := append(lists(some(), 3), many(64), many(65), many(5000))
	for _, o := range opers() {
		for _, l := range all {
			if got, want := Each(o, l), oneByOne(o, l); !slices.Equal(got, want) {
				t.Fatalf("Each of the kind %d with %d and %d, %v = %v; want %v", o.Kind, o.A, o.B, l, got, want)
			}
		}
	}
}

// Promise 12.2: Fold of the chapter's examples, of one record, of nothing, and of values whose sum wraps round.
func TestFold(t *testing.T) {
	l := list(1, 2, 2, 5, 1, 3)
	for _, c := range []struct {
		kind    int
		l, want []api.Record
	}{
		{graph.Sum, l, list(1, 5, 2, 5)},
		{graph.Count, l, list(1, 2, 2, 1)},
		{graph.Least, l, list(1, 2, 2, 5)},
		{graph.Most, l, list(1, 3, 2, 5)},
		{graph.Sum, list(7, -3), list(7, -3)},
		{graph.Count, list(7, -3), list(7, 1)},
		{graph.Least, list(7, -3), list(7, -3)},
		{graph.Most, list(7, -3), list(7, -3)},
		{graph.Least, list(7, 3, 7, 0), list(7, 0)},
		{graph.Most, list(7, -3, 7, -5), list(7, -3)},
		{graph.Sum, list(7, 3, 7, -3), list(7, 0)},
		{graph.Sum, list(7, high, 7, 1), list(7, low)},
		{graph.Sum, list(7, low, 7, -1), list(7, high)},
		{graph.Sum, list(7, low, 7, low), list(7, 0)},
		{graph.Sum, list(7, high, 7, high, 7, high), list(7, high-2)},
		{graph.Least, list(7, high, 7, low), list(7, low)},
		{graph.Most, list(7, high, 7, low), list(7, high)},
		{graph.Least, list(7, high), list(7, high)},
		{graph.Most, list(7, low), list(7, low)},
		{graph.Count, list(7, 5, 7, 5, 7, 5), list(7, 3)},
		{graph.Sum, list(7, 5, 7, 5, 7, 5), list(7, 15)},
		{graph.Count, list(high, 0, 0, 0, low, 0, -1, 0, 1, 0), list(low, 1, -1, 1, 0, 1, 1, 1, high, 1)},
		{graph.Count, list(10, 0, 9, 0, -10, 0, -9, 0), list(-10, 1, -9, 1, 9, 1, 10, 1)},
		{graph.Sum, list(1<<32, 1, 0, 2, 1<<33, 4), list(0, 2, 1<<32, 1, 1<<33, 4)},
	} {
		if got, e := Fold(c.kind, c.l); !slices.Equal(got, c.want) || e != api.OK {
			t.Errorf("Fold(%d, %v) = %v, %d; want %v, 0", c.kind, c.l, got, e, c.want)
		}
	}
	for _, kind := range stateful {
		for _, none := range [][]api.Record{nil, {}} {
			if got, e := Fold(kind, none); len(got) != 0 || e != api.OK {
				t.Errorf("Fold(%d, nothing) = %v, %d", kind, got, e)
			}
		}
	}
}

// valuesOf are the values of a key.
func valuesOf(l []api.Record, key int64) []int64 {
	var out []int64
	for _, x := range l {
		if x.Key == key {
			out = append(out, x.Val)
		}
	}
	return out
}

// made is what the chapter says that a kind makes of a key's values.
func made(kind int, vals []int64) int64 {
	slices.Sort(vals)
	switch kind {
	case graph.Sum:
		sum := new(big.Int)
		for _, v := range vals {
			sum.Add(sum, big.NewInt(v))
		}
		return wrapped(sum)
	case graph.Count:
		return int64(len(vals))
	case graph.Least:
		return vals[0]
	}
	return vals[len(vals)-1]
}

// folded is what the chapter says that Fold returns: key by key, in increasing order.
func folded(kind int, l []api.Record) []api.Record {
	var keys []int64
	for _, x := range l {
		keys = append(keys, x.Key)
	}
	slices.Sort(keys)
	var out []api.Record
	for _, key := range slices.Compact(keys) {
		out = append(out, api.Record{Key: key, Val: made(kind, valuesOf(l, key))})
	}
	return out
}

// manyLists are all short lists of some records, and longer ones: with few keys, with many, with one, and with the same record again and again.
func manyLists() [][]api.Record {
	all := append(lists(some(), 4), nil, many(64), many(65), many(500), slices.Repeat(list(5, 1, 6, high), 300))
	var keys, values []api.Record
	for i, v := range edges() {
		keys = append(keys, api.Record{Key: v, Val: int64(i)})
		values = append(values, api.Record{Key: 3, Val: v})
	}
	return append(all, keys, values, slices.Concat(keys, values, keys))
}

// Promise 12.2: Fold of all short lists of some records and of longer ones, held against the definition.
func TestFoldAll(t *testing.T) {
	for _, kind := range stateful {
		for _, l := range manyLists() {
			if got, e := Fold(kind, l); !slices.Equal(got, folded(kind, l)) || e != api.OK {
				t.Fatalf("Fold(%d, %v) = %v, %d; want %v, 0", kind, l, got, e, folded(kind, l))
			}
		}
	}
}

// Promise 12.2: Fold of many records, each with a key of its own, and all with the same one.
func TestFoldLong(t *testing.T) {
	const n = 100000
	var own, one []api.Record
	for i := range n {
		// The factor has no divisor in common with n, so that each key is there once, out of order.
		own = append(own, api.Record{Key: int64(i*77773%n) - n/2, Val: int64(i)})
		one = append(one, api.Record{Key: -7, Val: int64(i)})
	}
	for _, kind := range stateful {
		got, e := Fold(kind, own)
		if len(got) != n || e != api.OK {
			t.Fatalf("Fold(%d) of %d keys = %d records, %d", kind, n, len(got), e)
		}
		for i, x := range got {
			if x.Key != int64(i)-n/2 {
				t.Fatalf("Fold(%d) of %d keys has %v at %d", kind, n, x, i)
			}
		}
		if got, e := Fold(kind, one); !slices.Equal(got, folded(kind, one)) || e != api.OK {
			t.Errorf("Fold(%d) of %d records with one key = %v, %d; want %v, 0", kind, n, got, e, folded(kind, one))
		}
	}
}

// Promise 12.2: Fold of a kind that keeps no records, also without any, has nothing beside its error.
func TestFoldBad(t *testing.T) {
	for _, kind := range slices.Concat(plain(), noKinds) {
		for _, l := range [][]api.Record{nil, {}, list(1, 2), list(1, 2, 2, 5, 1, 3), many(65)} {
			if got, e := Fold(kind, l); len(got) != 0 || e != api.ErrCommand {
				t.Errorf("Fold(%d, %v) = %v, %d; want nothing, %d", kind, l, got, e, api.ErrCommand)
			}
		}
	}
}

// Promise 12.2: Goes of operators of all kinds: Fold where that is for the kind, and Each otherwise.
func TestGoes(t *testing.T) {
	all := append(lists(some(), 3), nil, many(64), many(65), many(500))
	for _, o := range opers() {
		for _, l := range all {
			want := oneByOne(o, l)
			if slices.Contains(stateful, o.Kind) {
				want = folded(o.Kind, l)
			}
			if got := Goes(o, l); !slices.Equal(got, want) {
				t.Fatalf("Goes of the kind %d with %d and %d, %v = %v; want %v", o.Kind, o.A, o.B, l, got, want)
			}
		}
	}
}

// Promise 12.2: Goes of the chapter's examples.
func TestGoesExamples(t *testing.T) {
	l := list(1, 2, 2, 5, 1, 3)
	for _, c := range []struct {
		o    graph.Op
		want []api.Record
	}{
		{graph.Op{Kind: graph.Sum}, list(1, 5, 2, 5)},
		{graph.Op{Kind: graph.Count}, list(1, 2, 2, 1)},
		{graph.Op{Kind: graph.Least}, list(1, 2, 2, 5)},
		{graph.Op{Kind: graph.Most}, list(1, 3, 2, 5)},
		{graph.Op{Kind: graph.Map, A: 2, B: 1}, list(1, 5, 2, 11, 1, 7)},
		{graph.Op{Kind: graph.Rekey, A: 2}, list(0, 2, 1, 5, 1, 3)},
		{graph.Op{Kind: graph.Delay, A: 2}, l},
		{graph.Op{Kind: 15}, l},
	} {
		if got := Goes(c.o, l); !slices.Equal(got, c.want) {
			t.Errorf("Goes of the kind %d, %v = %v; want %v", c.o.Kind, l, got, c.want)
		}
	}
}

// Promise 12.3: Each of two lists, one behind the other, is both results, one behind the other.
func TestEachOfBoth(t *testing.T) {
	all := append(lists(some(), 2), many(64), many(100))
	for _, o := range opers() {
		for _, a := range all {
			for _, b := range all {
				if got, want := Each(o, slices.Concat(a, b)), slices.Concat(Each(o, a), Each(o, b)); !slices.Equal(got, want) {
					t.Fatalf("Each of the kind %d with %d and %d, %v and %v = %v; want %v", o.Kind, o.A, o.B, a, b, got, want)
				}
			}
		}
	}
}

// orders are all orders of some records.
func orders(l []api.Record) [][]api.Record {
	if len(l) == 0 {
		return [][]api.Record{{}}
	}
	var out [][]api.Record
	for i, x := range l {
		for _, rest := range orders(slices.Concat(l[:i], l[i+1:])) {
			out = append(out, append([]api.Record{x}, rest...))
		}
	}
	return out
}

// Promise 12.3: Fold of each order of some records is the same, and so is that of many in any order, again and again.
func TestFoldInAnyOrder(t *testing.T) {
	random := rand.New(rand.NewSource(12))
	all := orders(append(some(), list(1, 3)...))
	var long [][]api.Record
	for range 200 {
		l := many(300)
		random.Shuffle(len(l), func(i, k int) { l[i], l[k] = l[k], l[i] })
		long = append(long, l)
	}
	for _, kind := range stateful {
		for _, same := range [][][]api.Record{all, long} {
			want, _ := Fold(kind, same[0])
			for _, l := range same {
				if got, e := Fold(kind, l); !slices.Equal(got, want) || e != api.OK {
					t.Fatalf("Fold(%d, %v) = %v, %d; want %v, 0", kind, l, got, e, want)
				}
			}
		}
	}
}

// Promise 12.3: Fold has each key once, that of each record, and no other one.
func TestFoldKeysOnce(t *testing.T) {
	for _, kind := range stateful {
		for _, l := range manyLists() {
			got, _ := Fold(kind, l)
			times := map[int64]int{}
			for _, x := range got {
				times[x.Key]++
			}
			keys := map[int64]bool{}
			for _, x := range l {
				keys[x.Key] = true
				if times[x.Key] != 1 {
					t.Fatalf("Fold(%d, %v) has the key %d %d times", kind, l, x.Key, times[x.Key])
				}
			}
			if len(times) != len(keys) {
				t.Fatalf("Fold(%d, %v) has %d keys; want %d", kind, l, len(times), len(keys))
			}
		}
	}
}

// answers are the lists that the calls of this package make of some records.
func answers(l []api.Record) [][]api.Record {
	var out [][]api.Record
	for _, o := range opers() {
		f, _ := Fold(o.Kind, l)
		out = append(out, Each(o, l), f, Goes(o, l))
	}
	return out
}

// Rule R4: no call changes its arguments, or what is in their unused capacity, and changes of a result do not reach them.
func TestArgumentsStay(t *testing.T) {
	for _, n := range []int{0, 1, 2, 64, 65, 130} {
		whole := many(n + 70)
		before := slices.Clone(whole)
		for _, out := range answers(whole[:n]) {
			out = append(out, list(-99, -99)...)
			for i := range out {
				out[i] = api.Record{Key: -77, Val: -77}
			}
		}
		if !slices.Equal(whole, before) {
			t.Errorf("a list of %d records was changed", n)
		}
	}
}

// Rule R4: results share no memory with each other, not even unused capacity.
func TestResultsAreApart(t *testing.T) {
	for _, n := range []int{1, 2, 64, 65} {
		all := answers(many(n))
		before := answers(many(n))
		for i, l := range all {
			if !slices.Equal(l, before[i]) {
				t.Fatalf("of %d records, a change of another result reaches the result %d", n, i)
			}
			l = l[:cap(l)]
			for k := range l {
				l[k] = api.Record{Key: -77, Val: -77}
			}
		}
	}
}
