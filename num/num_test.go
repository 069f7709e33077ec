package num

import (
	"math"
	"math/big"
	"testing"

	"watershed/api"
)

const maxCount = api.MaxCount

// edges32 stand on both sides of what Add and Sub tell apart.
var edges32 = []uint32{0, 1, 2, 3, 1 << 19, 1<<19 + 1, maxCount - 1, maxCount, maxCount + 1, 1 << 31, math.MaxUint32 - 1, math.MaxUint32}

// edges64 stand on both sides of nought, and at the ends of the type.
var edges64 = []int64{math.MinInt64, math.MinInt64 + 1, -1 << 32, -8, -7, -6, -2, -1, 0, 1, 2, 6, 7, 8, 1 << 32, math.MaxInt64 - 1, math.MaxInt64}

type pairCase struct {
	a, b, want uint32
	e          api.Errno
}

func checkPairs(t *testing.T, name string, f func(a, b uint32) (uint32, api.Errno), cases []pairCase) {
	t.Helper()
	for _, c := range cases {
		if got, e := f(c.a, c.b); got != c.want || e != c.e {
			t.Errorf("%s(%d, %d) = %d, %d; want %d, %d", name, c.a, c.b, got, e, c.want, c.e)
		}
	}
}

// Promise 1.1: Add, its bounds, and that ErrRange comes ahead of ErrOver.
func TestAdd(t *testing.T) {
	checkPairs(t, "Add", Add, []pairCase{
		{3, 4, 7, api.OK},
		{0, 0, 0, api.OK},
		{0, maxCount, maxCount, api.OK},
		{maxCount, 0, maxCount, api.OK},
		{1 << 19, 1 << 19, maxCount, api.OK},
		{1, maxCount - 1, maxCount, api.OK},
		{maxCount, 1, 0, api.ErrOver},
		{1, maxCount, 0, api.ErrOver},
		{1 << 19, 1<<19 + 1, 0, api.ErrOver},
		{maxCount, maxCount, 0, api.ErrOver},
		{maxCount + 1, 0, 0, api.ErrRange},
		{0, maxCount + 1, 0, api.ErrRange},
		{maxCount + 1, maxCount, 0, api.ErrRange},
		{maxCount, maxCount + 1, 0, api.ErrRange},
		{math.MaxUint32, 1, 0, api.ErrRange},
		{2, math.MaxUint32, 0, api.ErrRange},
		{1 << 31, 1 << 31, 0, api.ErrRange},
		{math.MaxUint32, math.MaxUint32, 0, api.ErrRange},
	})
}

// Promise 1.1: Sub, its bounds, and that ErrRange comes ahead of ErrOver.
func TestSub(t *testing.T) {
	checkPairs(t, "Sub", Sub, []pairCase{
		{7, 4, 3, api.OK},
		{4, 4, 0, api.OK},
		{0, 0, 0, api.OK},
		{maxCount, 0, maxCount, api.OK},
		{maxCount, maxCount, 0, api.OK},
		{maxCount, 1, maxCount - 1, api.OK},
		{3, 4, 0, api.ErrOver},
		{0, 1, 0, api.ErrOver},
		{0, maxCount, 0, api.ErrOver},
		{maxCount - 1, maxCount, 0, api.ErrOver},
		{maxCount + 1, 0, 0, api.ErrRange},
		{maxCount + 1, 1, 0, api.ErrRange},
		{maxCount + 1, maxCount + 1, 0, api.ErrRange},
		{0, maxCount + 1, 0, api.ErrRange},
		{maxCount, math.MaxUint32, 0, api.ErrRange},
		{math.MaxUint32, math.MaxUint32, 0, api.ErrRange},
	})
}

// Promise 1.1: Ceil, and both of its bounds.
func TestCeil(t *testing.T) {
	const most = 1 << 40
	for _, c := range []struct {
		n, d, want int
		e          api.Errno
	}{
		{7, 3, 3, api.OK},
		{6, 3, 2, api.OK},
		{8, 3, 3, api.OK},
		{9, 3, 3, api.OK},
		{0, 1, 0, api.OK},
		{0, 5, 0, api.OK},
		{1, 5, 1, api.OK},
		{5, 1, 5, api.OK},
		{0, most, 0, api.OK},
		{1, most, 1, api.OK},
		{most, 1, most, api.OK},
		{most, most, 1, api.OK},
		{most, most - 1, 2, api.OK},
		{most, 3, 366503875926, api.OK},
		{-1, 1, 0, api.ErrRange},
		{most + 1, 1, 0, api.ErrRange},
		{7, 0, 0, api.ErrRange},
		{7, -3, 0, api.ErrRange},
		{-7, -3, 0, api.ErrRange},
		{0, 0, 0, api.ErrRange},
		{7, most + 1, 0, api.ErrRange},
		{math.MinInt, -1, 0, api.ErrRange},
		{math.MaxInt, 1, 0, api.ErrRange},
		{math.MaxInt, math.MaxInt, 0, api.ErrRange},
		{math.MinInt, math.MinInt, 0, api.ErrRange},
	} {
		if got, e := Ceil(c.n, c.d); got != c.want || e != c.e {
			t.Errorf("Ceil(%d, %d) = %d, %d; want %d, %d", c.n, c.d, got, e, c.want, c.e)
		}
	}
}

// mixed are keys, and what the definition makes of them, worked out apart from the program.
var mixed = []struct {
	key  int64
	want uint32
}{
	{0, 0},
	{1, 0xca009717},
	{-1, 0x9cebc8ff},
	{2, 0x6c3247d3},
	{7, 0x6328ff6b},
	{99, 0x15c38b61},
	{-99, 0xa0411458},
	{1 << 32, 0x970818a6},
	{123456789012345, 0xde09fe2e},
	{math.MinInt64, 0x8838ccab},
	{math.MaxInt64, 0x5ae24d9b},
}

// bigMix hashes a key with unbounded numbers, step by step as the chapter tells it.
func bigMix(key int64) uint32 {
	word := new(big.Int).Lsh(big.NewInt(1), 64)
	x := new(big.Int).Mod(big.NewInt(key), word)
	fold := func(by uint) { x.Xor(x, new(big.Int).Rsh(x, by)) }
	times := func(by uint64) { x.Mul(x, new(big.Int).SetUint64(by)).Mod(x, word) }
	fold(32)
	times(0x9E3779B97F4A7C15)
	fold(29)
	times(0xBF58476D1CE4E5B9)
	return uint32(x.Rsh(x, 32).Uint64())
}

// Promise 1.2: Mix of ordinary keys, of negative ones, and of those at the ends.
func TestMix(t *testing.T) {
	for _, c := range mixed {
		if got := Mix(c.key); got != c.want {
			t.Errorf("Mix(%d) = %#x; want %#x", c.key, got, c.want)
		}
	}
	for bit := range 64 {
		for _, key := range []int64{1 << bit, -1 << bit, 1<<bit - 1, ^(1 << bit)} {
			if got, want := Mix(key), bigMix(key); got != want {
				t.Errorf("Mix(%d) = %#x; want %#x", key, got, want)
			}
		}
	}
}

// Promise 1.2: Part with each n that is allowed.
func TestPart(t *testing.T) {
	for _, c := range mixed {
		for n := 1; n <= 64; n++ {
			want := int(int64(c.want) % int64(n))
			if got, e := Part(c.key, n); got != want || e != api.OK {
				t.Errorf("Part(%d, %d) = %d, %d; want %d, 0", c.key, n, got, e, want)
			}
		}
	}
}

// Promise 1.2: Part with an n that is not allowed.
func TestPartRange(t *testing.T) {
	for _, c := range mixed {
		for _, n := range []int{math.MinInt, -1 << 32, -64, -1, 0, 65, 1 << 32, 1<<32 + 1, math.MaxInt} {
			if got, e := Part(c.key, n); got != 0 || e != api.ErrRange {
				t.Errorf("Part(%d, %d) = %d, %d; want 0, %d", c.key, n, got, e, api.ErrRange)
			}
		}
	}
}

// Promise 1.3: Floor on both sides of nought, and at the ends of the type.
func TestFloor(t *testing.T) {
	for _, c := range []struct{ v, d, q, r int64 }{
		{-7, 3, -3, 2},
		{-6, 3, -2, 0},
		{-5, 3, -2, 1},
		{-1, 3, -1, 2},
		{0, 3, 0, 0},
		{1, 3, 0, 1},
		{3, 3, 1, 0},
		{7, 3, 2, 1},
		{-4, 5, -1, 1},
		{-1, 1, -1, 0},
		{math.MinInt64, 1, math.MinInt64, 0},
		{math.MaxInt64, 1, math.MaxInt64, 0},
		{math.MinInt64, 2, math.MinInt64 / 2, 0},
		{math.MinInt64, 3, -3074457345618258603, 1},
		{math.MinInt64, math.MaxInt64, -2, math.MaxInt64 - 1},
		{math.MaxInt64, math.MaxInt64, 1, 0},
		{-1, math.MaxInt64, -1, math.MaxInt64 - 1},
	} {
		if q, r, e := Floor(c.v, c.d); q != c.q || r != c.r || e != api.OK {
			t.Errorf("Floor(%d, %d) = %d, %d, %d; want %d, %d, 0", c.v, c.d, q, r, e, c.q, c.r)
		}
	}
}

// Promise 1.3: Floor by something below 1.
func TestFloorRange(t *testing.T) {
	for _, v := range edges64 {
		for _, d := range []int64{math.MinInt64, -3, -1, 0} {
			if q, r, e := Floor(v, d); q != 0 || r != 0 || e != api.ErrRange {
				t.Errorf("Floor(%d, %d) = %d, %d, %d; want 0, 0, %d", v, d, q, r, e, api.ErrRange)
			}
		}
	}
}

// Promise 1.4: the order of Add's arguments does not matter, in its errors neither.
func TestAddCommutes(t *testing.T) {
	for _, a := range edges32 {
		for _, b := range edges32 {
			ab, e := Add(a, b)
			ba, f := Add(b, a)
			if ab != ba || e != f {
				t.Errorf("Add(%d, %d) = %d, %d, but Add(%d, %d) = %d, %d", a, b, ab, e, b, a, ba, f)
			}
		}
	}
}

// Promise 1.4: Sub takes back what Add did, and Add what Sub did.
func TestSubInvertsAdd(t *testing.T) {
	for _, a := range edges32 {
		for _, b := range edges32 {
			if sum, e := Add(a, b); e == api.OK {
				if back, e := Sub(sum, b); back != a || e != api.OK {
					t.Errorf("Sub(Add(%d, %d), %d) = %d, %d", a, b, b, back, e)
				}
			}
			if rest, e := Sub(a, b); e == api.OK {
				if back, e := Add(rest, b); back != a || e != api.OK {
					t.Errorf("Add(Sub(%d, %d), %d) = %d, %d", a, b, b, back, e)
				}
			}
		}
	}
}

// Promise 1.4: what Floor answers gives the value again, and the rest is from 0 to d - 1.
func TestFloorDeterminesValue(t *testing.T) {
	for _, v := range edges64 {
		for _, d := range edges64 {
			if d < 1 {
				continue
			}
			q, r, e := Floor(v, d)
			if e != api.OK || r < 0 || r >= d {
				t.Errorf("Floor(%d, %d) = %d, %d, %d: not a rest", v, d, q, r, e)
			}
			back := new(big.Int).Mul(big.NewInt(q), big.NewInt(d))
			if back.Add(back, big.NewInt(r)).Cmp(big.NewInt(v)) != 0 {
				t.Errorf("Floor(%d, %d) = %d, %d: that is %s", v, d, q, r, back)
			}
		}
	}
}
