package code

import (
	"math"
	"math/big"
	"strings"
	"testing"

	"watershed/api"
)

// edges are integers on both sides of where an encoding becomes a byte longer, and at the ends of the types.
func edges() []uint64 {
	l := []uint64{0, 1, 2, 3, 5, 300, 1 << 20, math.MaxInt64 - 1, math.MaxUint64 - 1, math.MaxUint64}
	for shift := range 64 {
		v := uint64(1) << shift
		l = append(l, v-1, v, v+1)
	}
	return l
}

// signedEdges are the edges with both signs.
func signedEdges() []int64 {
	var l []int64
	for _, v := range edges() {
		l = append(l, int64(v), -int64(v))
	}
	return append(l, math.MinInt64, math.MinInt64+1)
}

// groups encodes an integer that is not negative as the chapter defines it, with unbounded numbers.
func groups(v *big.Int) string {
	base := big.NewInt(128)
	rest, group := new(big.Int).Set(v), new(big.Int)
	var out []byte
	for {
		rest.DivMod(rest, base, group)
		b := byte(group.Int64())
		if rest.Sign() == 0 {
			return string(append(out, b))
		}
		out = append(out, b+128)
	}
}

// signedGroups encodes a signed integer as the chapter defines it.
func signedGroups(v int64) string {
	twice := new(big.Int).Mul(big.NewInt(2), big.NewInt(v))
	if v < 0 {
		twice.Neg(twice)
		twice.Sub(twice, big.NewInt(1))
	}
	return groups(twice)
}

// Promise 2.1: Num with one to ten bytes.
func TestNum(t *testing.T) {
	for _, c := range []struct {
		v    uint64
		want string
	}{
		{0, "\x00"},
		{1, "\x01"},
		{127, "\x7F"},
		{128, "\x80\x01"},
		{129, "\x81\x01"},
		{255, "\xFF\x01"},
		{256, "\x80\x02"},
		{300, "\xAC\x02"},
		{1<<14 - 1, "\xFF\x7F"},
		{1 << 14, "\x80\x80\x01"},
		{1<<63 - 1, "\xFF\xFF\xFF\xFF\xFF\xFF\xFF\xFF\x7F"},
		{1 << 63, "\x80\x80\x80\x80\x80\x80\x80\x80\x80\x01"},
		{math.MaxUint64, "\xFF\xFF\xFF\xFF\xFF\xFF\xFF\xFF\xFF\x01"},
	} {
		if got := Num(c.v); got != c.want {
			t.Errorf("Num(%d) = % X; want % X", c.v, got, c.want)
		}
	}
	for _, v := range edges() {
		if got, want := Num(v), groups(new(big.Int).SetUint64(v)); got != want {
			t.Errorf("Num(%d) = % X; want % X", v, got, want)
		}
	}
}

// Promise 2.1: Signed on both sides of nought, and at the ends of the type.
func TestSigned(t *testing.T) {
	for _, c := range []struct {
		v    int64
		want string
	}{
		{0, "\x00"},
		{-1, "\x01"},
		{1, "\x02"},
		{-2, "\x03"},
		{2, "\x04"},
		{63, "\x7E"},
		{-64, "\x7F"},
		{64, "\x80\x01"},
		{-65, "\x81\x01"},
		{math.MaxInt64, "\xFE\xFF\xFF\xFF\xFF\xFF\xFF\xFF\xFF\x01"},
		{math.MinInt64, "\xFF\xFF\xFF\xFF\xFF\xFF\xFF\xFF\xFF\x01"},
	} {
		if got := Signed(c.v); got != c.want {
			t.Errorf("Signed(%d) = % X; want % X", c.v, got, c.want)
		}
	}
	for _, v := range signedEdges() {
		if got, want := Signed(v), signedGroups(v); got != want {
			t.Errorf("Signed(%d) = % X; want % X", v, got, want)
		}
	}
}

// someTexts are short and long ones, of any bytes, some beyond every limit of api.
func someTexts() []string {
	var all []byte
	for b := range 256 {
		all = append(all, byte(b))
	}
	return []string{
		"", "a", "ab", "\x00", "\x80", "\xFF\xFE", "h\u00E9", string(all),
		strings.Repeat("x", 127), strings.Repeat("x", 128), strings.Repeat("\x80", 300),
		strings.Repeat("y", api.MaxBytes+1), strings.Repeat("z", 1<<14), strings.Repeat("z", 1<<21+1),
	}
}

// Promise 2.1: Text of no bytes, of any bytes, and with a length of one to four bytes.
func TestText(t *testing.T) {
	if got, want := Text("ab"), "\x02\x61\x62"; got != want {
		t.Errorf("Text(ab) = % X; want % X", got, want)
	}
	if got, want := Text(""), "\x00"; got != want {
		t.Errorf("Text of nothing = % X; want % X", got, want)
	}
	for _, s := range someTexts() {
		if got, want := Text(s), groups(big.NewInt(int64(len(s))))+s; got != want {
			t.Errorf("Text of %d bytes has %d bytes, or others than it should", len(s), len(got))
		}
	}
}

// check tells whether a reader has this error and so many bytes left.
func check(t *testing.T, what string, r *Reader, e api.Errno, left int) {
	t.Helper()
	if r.Err() != e || r.Left() != left {
		t.Errorf("%q: error %d, %d left; want error %d, %d left", what, r.Err(), r.Left(), e, left)
	}
}

// Promise 2.2: a new reader stands at the start, and has no error, whatever the bytes are.
func TestNew(t *testing.T) {
	for _, s := range []string{"", "\x00", "\x80", "\x80\x00", "abc", strings.Repeat("\xFF", 20)} {
		check(t, "New", New(s), api.OK, len(s))
	}
}

// Promise 2.2: the chapter's example, and what is left behind it.
func TestReadSequence(t *testing.T) {
	r := New("\xAC\x02\x03\x02\x61\x62\x63")
	if v := r.Num(); v != 300 {
		t.Errorf("Num = %d; want 300", v)
	}
	check(t, "after Num", r, api.OK, 5)
	if v := r.Signed(); v != -2 {
		t.Errorf("Signed = %d; want -2", v)
	}
	check(t, "after Signed", r, api.OK, 4)
	if s := r.Text(5); s != "ab" {
		t.Errorf("Text = %q; want ab", s)
	}
	check(t, "after Text", r, api.OK, 1)
	if e := r.End(); e != api.ErrLong {
		t.Errorf("End = %d; want %d", e, api.ErrLong)
	}
	check(t, "after End", r, api.ErrLong, 1)
}

// badNums are bytes that no integer is at the front of, and their errors.
var badNums = []struct {
	s string
	e api.Errno
}{
	{"", api.ErrShort},
	{"\x80", api.ErrShort},
	{"\xFF", api.ErrShort},
	{"\x80\x80", api.ErrShort},
	{"\xFF\xFF\xFF\xFF\xFF\xFF\xFF\xFF\xFF", api.ErrShort},
	{"\x80\x80\x80\x80\x80\x80\x80\x80\x80", api.ErrShort},
	{"\x80\x00", api.ErrField},
	{"\xFF\x00", api.ErrField},
	{"\x80\x00\x80", api.ErrField},
	{"\xAC\x82\x00", api.ErrField},
	{"\x80\x80\x00\x01", api.ErrField},
	{"\x80\x80\x80\x80\x80\x80\x80\x80\x00", api.ErrField},
	{"\x80\x80\x80\x80\x80\x80\x80\x80\x80\x00", api.ErrField},
	{"\xFF\xFF\xFF\xFF\xFF\xFF\xFF\xFF\xFF\x00", api.ErrField},
	{"\xFF\xFF\xFF\xFF\xFF\xFF\xFF\xFF\xFF\x02", api.ErrField},
	{"\x80\x80\x80\x80\x80\x80\x80\x80\x80\x03", api.ErrField},
	{"\x80\x80\x80\x80\x80\x80\x80\x80\x80\x7F", api.ErrField},
	{"\x80\x80\x80\x80\x80\x80\x80\x80\x80\x80", api.ErrField},
	{"\x80\x80\x80\x80\x80\x80\x80\x80\x80\x81", api.ErrField},
	{"\x80\x80\x80\x80\x80\x80\x80\x80\x80\x81\x01", api.ErrField},
	{"\x80\x80\x80\x80\x80\x80\x80\x80\x80\xFF\x00", api.ErrField},
	{"\xFF\xFF\xFF\xFF\xFF\xFF\xFF\xFF\xFF\xFF\xFF", api.ErrField},
}

// Promise 2.2: an integer that is wrong has its error with every method, ahead of any bound, and nothing is consumed.
func TestBadNum(t *testing.T) {
	for _, c := range badNums {
		r := New(c.s)
		if v := r.Num(); v != 0 {
			t.Errorf("Num of % X = %d; want 0", c.s, v)
		}
		check(t, "Num of "+c.s, r, c.e, len(c.s))
		r = New(c.s)
		if v := r.Signed(); v != 0 {
			t.Errorf("Signed of % X = %d; want 0", c.s, v)
		}
		check(t, "Signed of "+c.s, r, c.e, len(c.s))
		for _, most := range []int{math.MinInt, -1, 0, 4, math.MaxInt} {
			r = New(c.s)
			if v := r.Int(most); v != 0 {
				t.Errorf("Int(%d) of % X = %d; want 0", most, c.s, v)
			}
			check(t, "Int of "+c.s, r, c.e, len(c.s))
			r = New(c.s)
			if s := r.Text(most); s != "" {
				t.Errorf("Text(%d) of % X = %q; want nothing", most, c.s, s)
			}
			check(t, "Text of "+c.s, r, c.e, len(c.s))
		}
	}
}

// Promise 2.2: an integer that is wrong behind others is not consumed, but they are.
func TestBadNumBehindGoodOnes(t *testing.T) {
	for _, c := range badNums {
		r := New("\x00\xAC\x02" + c.s)
		if a, b, v := r.Num(), r.Num(), r.Num(); a != 0 || b != 300 || v != 0 {
			t.Errorf("Num three times, the last of % X: %d, %d, %d; want 0, 300, 0", c.s, a, b, v)
		}
		check(t, "Num behind others", r, c.e, len(c.s))
	}
}

// Promise 2.2: Num ends at the integer's last byte, whatever follows it.
func TestNumEnds(t *testing.T) {
	for _, v := range edges() {
		for _, tail := range []string{"", "\x00", "\x01", "\x80", "\xFF\xFF"} {
			r := New(Num(v) + tail)
			if got := r.Num(); got != v {
				t.Errorf("Num of Num(%d) and % X = %d", v, tail, got)
			}
			check(t, "Num", r, api.OK, len(tail))
		}
	}
}

// Promise 2.2: Int at its bound, beyond it, and with one that is negative; the bytes are consumed with ErrRange.
func TestInt(t *testing.T) {
	for _, c := range []struct {
		v    uint64
		most int
		e    api.Errno
	}{
		{0, 0, api.OK},
		{3, 4, api.OK},
		{4, 4, api.OK},
		{5, 4, api.ErrRange},
		{1, 0, api.ErrRange},
		{127, 128, api.OK},
		{128, 127, api.ErrRange},
		{300, 300, api.OK},
		{300, 299, api.ErrRange},
		{0, -1, api.ErrRange},
		{1, -1, api.ErrRange},
		{0, math.MinInt, api.ErrRange},
		{5, math.MinInt, api.ErrRange},
		{math.MaxInt64 - 1, math.MaxInt, api.OK},
		{math.MaxInt64, math.MaxInt, api.OK},
		{math.MaxInt64, math.MaxInt - 1, api.ErrRange},
		{1 << 63, math.MaxInt, api.ErrRange},
		{1 << 63, 0, api.ErrRange},
		{1 << 63, math.MinInt, api.ErrRange},
		{math.MaxUint64, math.MaxInt, api.ErrRange},
		{math.MaxUint64, 4, api.ErrRange},
		{math.MaxUint64, -1, api.ErrRange},
	} {
		want := int(c.v)
		if c.e != api.OK {
			want = 0
		}
		for _, tail := range []string{"", "\x07", "abc"} {
			r := New(Num(c.v) + tail)
			if got := r.Int(c.most); got != want {
				t.Errorf("Int(%d) of %d = %d; want %d", c.most, c.v, got, want)
			}
			check(t, "Int", r, c.e, len(tail))
		}
	}
}

// Promise 2.2: Signed of both signs, and of the ends of the type.
func TestReadSigned(t *testing.T) {
	for _, c := range []struct {
		s    string
		want int64
	}{
		{"\x00", 0},
		{"\x01", -1},
		{"\x02", 1},
		{"\x03", -2},
		{"\x7F", -64},
		{"\x80\x01", 64},
		{"\xFE\xFF\xFF\xFF\xFF\xFF\xFF\xFF\xFF\x01", math.MaxInt64},
		{"\xFF\xFF\xFF\xFF\xFF\xFF\xFF\xFF\xFF\x01", math.MinInt64},
	} {
		r := New(c.s + "\x01")
		if got := r.Signed(); got != c.want {
			t.Errorf("Signed of % X = %d; want %d", c.s, got, c.want)
		}
		check(t, "Signed", r, api.OK, 1)
	}
}

// Promise 2.2: Text at its bound, beyond it, and with fewer bytes than its length says; ErrRange comes ahead of ErrShort,
// and the length is consumed with both.
func TestReadText(t *testing.T) {
	long := strings.Repeat("x", 300)
	for _, c := range []struct {
		s    string
		most int
		want string
		e    api.Errno
		left int
	}{
		{"\x00", 0, "", api.OK, 0},
		{"\x00abc", 0, "", api.OK, 3},
		{"\x02ab", 2, "ab", api.OK, 0},
		{"\x02ab", 5, "ab", api.OK, 0},
		{"\x02abc", 2, "ab", api.OK, 1},
		{"\x02abc", math.MaxInt, "ab", api.OK, 1},
		{"\x03\x00\x80\xFF", 3, "\x00\x80\xFF", api.OK, 0},
		{"\xAC\x02" + long, 300, long, api.OK, 0},
		{"\xAC\x02" + long + "\x00", 301, long, api.OK, 1},
		{"\x02ab", 1, "", api.ErrRange, 2},
		{"\x01a", 0, "", api.ErrRange, 1},
		{"\x00", -1, "", api.ErrRange, 0},
		{"\x00a", math.MinInt, "", api.ErrRange, 1},
		{"\xAC\x02" + long, 299, "", api.ErrRange, 300},
		{"\x02a", 2, "", api.ErrShort, 1},
		{"\x01", 5, "", api.ErrShort, 0},
		{"\x03ab", 3, "", api.ErrShort, 2},
		{"\xAC\x02" + long[1:], 300, "", api.ErrShort, 299},
		{"\x02a", 1, "", api.ErrRange, 1},
		{"\x02", -1, "", api.ErrRange, 0},
		{Num(math.MaxInt64) + "ab", math.MaxInt, "", api.ErrShort, 2},
		{Num(1<<63) + "ab", math.MaxInt, "", api.ErrRange, 2},
		{Num(math.MaxUint64) + "ab", math.MaxInt, "", api.ErrRange, 2},
		{Num(1<<32+2) + "ab", math.MaxInt, "", api.ErrShort, 2},
	} {
		r := New(c.s)
		if got := r.Text(c.most); got != c.want {
			t.Errorf("Text(%d) of %q = %q; want %q", c.most, c.s, got, c.want)
		}
		check(t, "Text", r, c.e, c.left)
	}
}

// checkStopped tells whether a reader reads nothing any more, and keeps its error.
func checkStopped(t *testing.T, what string, r *Reader, e api.Errno, left int) {
	t.Helper()
	check(t, what, r, e, left)
	for range 2 {
		if v := r.Num(); v != 0 {
			t.Errorf("%s: Num = %d after an error", what, v)
		}
		check(t, what+", Num", r, e, left)
		if v := r.Signed(); v != 0 {
			t.Errorf("%s: Signed = %d after an error", what, v)
		}
		check(t, what+", Signed", r, e, left)
		for _, most := range []int{-1, 0, 100} {
			if v := r.Int(most); v != 0 {
				t.Errorf("%s: Int(%d) = %d after an error", what, most, v)
			}
			check(t, what+", Int", r, e, left)
			if s := r.Text(most); s != "" {
				t.Errorf("%s: Text(%d) = %q after an error", what, most, s)
			}
			check(t, what+", Text", r, e, left)
		}
		r.Fail(api.ErrCommand)
		check(t, what+", Fail", r, e, left)
		r.Fail(api.OK)
		check(t, what+", Fail of OK", r, e, left)
		if got := r.End(); got != e {
			t.Errorf("%s: End = %d; want %d", what, got, e)
		}
		check(t, what+", End", r, e, left)
	}
}

// Promises 2.2 and 2.3: the first error stays, wherever it comes from, and nothing is read after it.
func TestFirstErrorStays(t *testing.T) {
	const good = "\x05\x02abcdef"
	for _, c := range []struct {
		what string
		s    string
		fail func(r *Reader)
		e    api.Errno
		left int
	}{
		{"Num, a byte of 0", "\x80\x00" + good, func(r *Reader) { r.Num() }, api.ErrField, 10},
		{"Num, nothing there", "", func(r *Reader) { r.Num() }, api.ErrShort, 0},
		{"Num, a byte missing", "\x81", func(r *Reader) { r.Num() }, api.ErrShort, 1},
		{"Signed, a byte of 0", "\x80\x00" + good, func(r *Reader) { r.Signed() }, api.ErrField, 10},
		{"Int, too great", "\x05" + good, func(r *Reader) { r.Int(4) }, api.ErrRange, 8},
		{"Int, a negative bound", "\x00" + good, func(r *Reader) { r.Int(-1) }, api.ErrRange, 8},
		{"Text, too long", "\x05" + good, func(r *Reader) { r.Text(4) }, api.ErrRange, 8},
		{"Text, bytes missing", "\x09" + good, func(r *Reader) { r.Text(9) }, api.ErrShort, 8},
		{"Fail", good, func(r *Reader) { r.Fail(api.ErrSum) }, api.ErrSum, 8},
		{"Fail behind a number", good, func(r *Reader) { r.Num(); r.Fail(api.ErrTerm) }, api.ErrTerm, 7},
		{"Fail with nothing left", "", func(r *Reader) { r.Fail(api.ErrDepth) }, api.ErrDepth, 0},
		{"End", good, func(r *Reader) { r.End() }, api.ErrLong, 8},
		{"End behind a number", good, func(r *Reader) { r.Num(); r.End() }, api.ErrLong, 7},
	} {
		r := New(c.s)
		c.fail(r)
		checkStopped(t, c.what, r, c.e, c.left)
	}
}

// Promise 2.3: Fail of OK is no error, and what is read after it is read.
func TestFailOfOK(t *testing.T) {
	r := New("\x05\x06")
	r.Fail(api.OK)
	check(t, "Fail of OK", r, api.OK, 2)
	if v := r.Num(); v != 5 {
		t.Errorf("Num = %d; want 5", v)
	}
	r.Fail(api.ErrBusy)
	r.Fail(api.ErrFull)
	checkStopped(t, "Fail twice", r, api.ErrBusy, 1)
}

// Promise 2.3: any number may be the error.
func TestFailOfAnyNumber(t *testing.T) {
	for _, e := range []api.Errno{api.ErrRange, api.ErrLong, api.ErrCommand, -1, 1000, math.MaxInt, math.MinInt} {
		r := New("\x05")
		r.Fail(e)
		checkStopped(t, "Fail", r, e, 1)
	}
}

// Promise 2.3: End with nothing left is OK and sets nothing, with bytes left it is ErrLong, and an earlier error comes ahead.
func TestEnd(t *testing.T) {
	r := New("")
	if e := r.End(); e != api.OK {
		t.Errorf("End of nothing = %d; want 0", e)
	}
	check(t, "End of nothing", r, api.OK, 0)
	r = New("\x05\x00")
	if r.Num(); r.Num() != 0 || r.End() != api.OK || r.End() != api.OK {
		t.Errorf("End behind the last byte = %d; want 0", r.Err())
	}
	check(t, "End behind the last byte", r, api.OK, 0)
	if r.Num(); r.End() != api.ErrShort {
		t.Errorf("End after a byte was missing = %d; want %d", r.End(), api.ErrShort)
	}
	r = New("\x00")
	if e := r.End(); e != api.ErrLong {
		t.Errorf("End ahead of a byte = %d; want %d", e, api.ErrLong)
	}
	checkStopped(t, "End ahead of a byte", r, api.ErrLong, 1)
	r = New("\x80\x00\x01")
	if r.Num(); r.End() != api.ErrField {
		t.Errorf("End after an error = %d; want %d", r.End(), api.ErrField)
	}
}

// Promise 2.2: two readers of the same bytes do not share their place or their error.
func TestReadersAreApart(t *testing.T) {
	const s = "\x05\x06"
	a, b := New(s), New(s)
	a.Num()
	a.Fail(api.ErrSum)
	check(t, "the first reader", a, api.ErrSum, 1)
	check(t, "the second reader", b, api.OK, 2)
	if v := b.Num(); v != 5 {
		t.Errorf("Num of the second reader = %d; want 5", v)
	}
}

// Promise 2.4: decoding inverts encoding, one value behind the other.
func TestDecodingInvertsEncoding(t *testing.T) {
	var all strings.Builder
	for _, v := range edges() {
		all.WriteString(Num(v))
	}
	for _, v := range signedEdges() {
		all.WriteString(Signed(v))
	}
	for _, s := range someTexts() {
		all.WriteString(Text(s))
	}
	r := New(all.String())
	for _, v := range edges() {
		if got := r.Num(); got != v {
			t.Errorf("Num = %d; want %d", got, v)
		}
	}
	for _, v := range signedEdges() {
		if got := r.Signed(); got != v {
			t.Errorf("Signed = %d; want %d", got, v)
		}
	}
	for _, s := range someTexts() {
		if got := r.Text(len(s)); got != s {
			t.Errorf("Text has %d bytes, or others than it should; want %d", len(got), len(s))
		}
	}
	if e := r.End(); e != api.OK {
		t.Errorf("End = %d; want 0", e)
	}
}

// checkOnlyEncoding tells whether s is the encoding of what it is decoded as, or is refused with nothing consumed.
func checkOnlyEncoding(t *testing.T, s string) {
	t.Helper()
	r := New(s)
	v := r.Num()
	used := s[:len(s)-r.Left()]
	if r.Err() == api.OK {
		if used != Num(v) {
			t.Errorf("% X is decoded as %d, whose encoding is % X", used, v, Num(v))
		}
	} else if used != "" || v != 0 {
		t.Errorf("% X has error %d, but %d and %d bytes consumed", s, r.Err(), v, len(used))
	}
	r = New(s)
	signed := r.Signed()
	used = s[:len(s)-r.Left()]
	if r.Err() == api.OK && used != Signed(signed) {
		t.Errorf("% X is decoded as %d, whose encoding is % X", used, signed, Signed(signed))
	}
}

// Promise 2.4: bytes that are decoded as an integer are its encoding: all of up to two bytes, and longer ones
// with every byte behind bytes that another one follows.
func TestOneEncoding(t *testing.T) {
	for a := range 256 {
		checkOnlyEncoding(t, string([]byte{byte(a)}))
		for b := range 256 {
			checkOnlyEncoding(t, string([]byte{byte(a), byte(b)}))
			for n := range 12 {
				for _, fill := range []string{"\x80", "\x81", "\xFF"} {
					checkOnlyEncoding(t, strings.Repeat(fill, n)+string([]byte{byte(a), byte(b)}))
				}
			}
		}
	}
}

// Promise 2.4: a text has one encoding: its length in more bytes than it needs is refused.
func TestOneEncodingOfText(t *testing.T) {
	r := New("\x82\x00ab")
	if s := r.Text(5); s != "" {
		t.Errorf("Text = %q; want nothing", s)
	}
	check(t, "a length with a last byte of 0", r, api.ErrField, 4)
}
