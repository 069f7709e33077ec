package hop

import (
	"encoding/binary"
	"fmt"
	"hash/crc32"
	"math"
	"strings"
	"testing"

	"watershed/api"
	"watershed/crc"
)

// filled is a text of so many bytes, which are not all the same.
func filled(n int) string { return strings.Repeat("0123456789abcdef", n/16+1)[:n] }

// sealed is a body behind its checksum, by the library's.
func sealed(body string) string {
	sum := crc32.Checksum([]byte(body), crc32.MakeTable(crc32.Castagnoli))
	return string(binary.LittleEndian.AppendUint32(nil, sum)) + body
}

// bodyOf is the four numbers of a frame, by the library's encoding, and its text.
func bodyOf(f Frame) string {
	var b []byte
	for _, v := range []int{f.Kind, f.Flow, f.Epoch, f.N} {
		b = binary.AppendUvarint(b, uint64(v))
	}
	return string(b) + f.S
}

// wrong is what the chapter says is wrong with a frame, which Write tells.
func wrong(f Frame) api.Errno {
	least := map[int]int{1: 1, 2: 0}
	from, isKind := least[f.Kind]
	switch {
	case !isKind, f.Flow < 0, f.Flow > 1000, f.Epoch < 1, f.Epoch > 1073741824, f.N < from, f.N > 1099511627776:
		return api.ErrField
	case f.Kind == 2 && len(f.S) > 0:
		return api.ErrField
	case len(f.S) > 6000:
		return api.ErrLong
	}
	return api.OK
}

// frameOf is the frame whose body is s, as the chapter defines it; false: there is none.
func frameOf(s string) (Frame, bool) {
	var v [4]uint64
	rest := s
	for i := range v {
		x, n := binary.Uvarint([]byte(rest))
		if n <= 0 || x > math.MaxInt {
			return Frame{}, false
		}
		v[i], rest = x, rest[n:]
	}
	f := Frame{int(v[0]), int(v[1]), int(v[2]), int(v[3]), rest}
	if wrong(f) != api.OK || bodyOf(f) != s {
		return Frame{}, false
	}
	return f, true
}

// shown is a frame as a failed test tells it.
func shown(f Frame) string {
	return fmt.Sprintf("{%d %d %d %d %q: %d bytes}", f.Kind, f.Flow, f.Epoch, f.N, f.S[:min(len(f.S), 20)], len(f.S))
}

// reads tests what Read makes of bytes.
func reads(t *testing.T, s string, want Frame, e api.Errno) {
	t.Helper()
	if f, x := Read(s); f != want || x != e {
		t.Fatalf("Read(%x: %d bytes) = %s, %d; want %s, %d", s[:min(len(s), 40)], len(s), shown(f), x, shown(want), e)
	}
}

// writes tests what Write makes of a frame, and Read of the bytes that it would have.
func writes(t *testing.T, f Frame) {
	t.Helper()
	want, e := "", wrong(f)
	if e == api.OK {
		want = sealed(bodyOf(f))
	}
	if s, x := Write(f); s != want || x != e {
		t.Fatalf("Write(%s) = %x, %d; want %x, %d", shown(f), s[:min(len(s), 40)], x, want[:min(len(want), 40)], e)
	}
	if e == api.OK {
		reads(t, want, f, api.OK)
	} else {
		reads(t, sealed(bodyOf(f)), Frame{}, api.ErrField)
	}
}

// The numbers of each field at and beyond its edges, and some that 32 bits would take for others.
var (
	someKinds  = []int{math.MinInt, -1, 0, 1, 2, 3, 4, 129, 1<<32 + 1, 1<<32 + 2, math.MaxInt}
	someFlows  = []int{math.MinInt, -1000, -1, 0, 1, 127, 128, 999, 1000, 1001, 1 << 16, 1 << 32, math.MaxInt}
	someEpochs = []int{math.MinInt, -1, 0, 1, 2, 16384, 1<<30 - 1, 1 << 30, 1<<30 + 1, 1 << 31, 1<<32 + 1, math.MaxInt}
	someNs     = []int{math.MinInt, -1 << 40, -1, 0, 1, 2, 300, 1<<32 - 1, 1 << 32, 1<<40 - 1, 1 << 40, 1<<40 + 1, 1 << 41, math.MaxInt}
)

// Promise 17.1: all combinations of numbers at and beyond their edges, with and without a text, are written and read as the definitions say.
func TestFields(t *testing.T) {
	for _, kind := range someKinds {
		for _, flow := range someFlows {
			for _, epoch := range someEpochs {
				for _, n := range someNs {
					for _, s := range []string{"", "\x00", "ab"} {
						writes(t, Frame{kind, flow, epoch, n, s})
					}
				}
			}
		}
	}
}

// Promise 17.1: a text has at most 6000 bytes, an Ack none; numbers that are wrong are told ahead of a text that is too long.
func TestTexts(t *testing.T) {
	for _, size := range []int{1, 127, 128, 4096, 5999, 6000, 6001, 8192, 70000} {
		s := filled(size)
		for _, kind := range []int{0, 1, 2, 3} {
			for _, flow := range []int{-1, 0, 1000, 1001} {
				writes(t, Frame{kind, flow, 1, 1, s})
			}
			for _, epoch := range []int{0, 1, 1 << 30, 1<<30 + 1} {
				writes(t, Frame{kind, 7, epoch, 1, s})
			}
			for _, n := range []int{-1, 0, 1, 1 << 40, 1<<40 + 1} {
				writes(t, Frame{kind, 7, 1, n, s})
			}
		}
	}
}

// Promise 17.1: a text may have any bytes, such as those of numbers, of other frames, and those that are no text's.
func TestAnyBytes(t *testing.T) {
	var all strings.Builder
	for i := range 256 {
		all.WriteByte(byte(i))
		writes(t, Frame{1, 3, 5, 7, string([]byte{byte(i)})})
		writes(t, Frame{1, 3, 5, 7, string([]byte{byte(i), 0, byte(i)})})
	}
	writes(t, Frame{1, 3, 5, 7, all.String()})
	writes(t, Frame{1, 3, 5, 7, sealed(bodyOf(Frame{1, 3, 5, 7, all.String()}))})
}

// Promise 17.1: each error and each frame in plain numbers.
func TestWritePlain(t *testing.T) {
	long := filled(6001)
	for _, c := range []struct {
		f Frame
		e api.Errno
	}{
		{Frame{Data, 0, 1, 1, ""}, api.OK},
		{Frame{Data, 1000, 1 << 30, 1 << 40, long[:6000]}, api.OK},
		{Frame{Ack, 0, 1, 0, ""}, api.OK},
		{Frame{Ack, 1000, 1 << 30, 1 << 40, ""}, api.OK},
		{Frame{}, api.ErrField},
		{Frame{0, 0, 1, 1, ""}, api.ErrField},
		{Frame{3, 0, 1, 1, ""}, api.ErrField},
		{Frame{Data, -1, 1, 1, ""}, api.ErrField},
		{Frame{Data, 1001, 1, 1, ""}, api.ErrField},
		{Frame{Data, 0, 0, 1, ""}, api.ErrField},
		{Frame{Data, 0, 1<<30 + 1, 1, ""}, api.ErrField},
		{Frame{Data, 0, 1, 0, ""}, api.ErrField},
		{Frame{Data, 0, 1, 1<<40 + 1, ""}, api.ErrField},
		{Frame{Ack, 0, 1, -1, ""}, api.ErrField},
		{Frame{Ack, 0, 1, 1<<40 + 1, ""}, api.ErrField},
		{Frame{Ack, 0, 1, 1, "a"}, api.ErrField},
		{Frame{Ack, 0, 1, 1, long}, api.ErrField},
		{Frame{Data, 0, 1, 0, long}, api.ErrField},
		{Frame{Data, 0, 1, 1, long}, api.ErrLong},
	} {
		s, e := Write(c.f)
		if e != c.e || e != api.OK && s != "" {
			t.Errorf("Write(%s) = %q, %d; want %d", shown(c.f), s, e, c.e)
		}
	}
	if Data != 1 || Ack != 2 {
		t.Errorf("the kinds are %d and %d", Data, Ack)
	}
}

// Promise 17.1: the bytes of two frames, one by one.
func TestWriteBytes(t *testing.T) {
	for _, c := range []struct {
		f    Frame
		body string
	}{
		{Frame{1, 300, 1, 2, "ab"}, "\x01\xac\x02\x01\x02ab"},
		{Frame{2, 0, 128, 0, ""}, "\x02\x00\x80\x01\x00"},
	} {
		if s, e := Write(c.f); s != crc.Seal(c.body) || e != api.OK {
			t.Errorf("Write(%s) = %x, %d; want the body %x", shown(c.f), s, e, c.body)
		}
	}
}

// Promise 17.1: all short bodies of some bytes, each behind its checksum, are read as the definitions say.
func TestReadShort(t *testing.T) {
	const bytes = "\x00\x01\x02\x03\x7f\x80\xff"
	bodies := []string{""}
	frames := 0
	for range 7 {
		var longer []string
		for _, s := range bodies {
			f, ok := frameOf(s)
			if ok {
				frames++
				reads(t, sealed(s), f, api.OK)
			} else {
				reads(t, sealed(s), Frame{}, api.ErrField)
			}
			for i := range len(bytes) {
				longer = append(longer, s+bytes[i:i+1])
			}
		}
		bodies = longer
	}
	if frames == 0 {
		t.Error("none was a frame")
	}
}

// Promise 17.1: a body that ends within its numbers, or has a number in a longer form or beyond 64 bits, is ErrField.
func TestReadFields(t *testing.T) {
	num := func(v uint64) string { return string(binary.AppendUvarint(nil, v)) }
	good := []string{num(1), num(5), num(6), num(7)}
	longer := []string{"\x81\x00", "\x85\x00", "\x86\x80\x00", "\x87\x80\x80\x80\x00"}
	body := strings.Join(good, "")
	for i := range body {
		reads(t, sealed(body[:i]), Frame{}, api.ErrField)
	}
	for i := range good {
		bad := []string{longer[i], strings.Repeat("\xff", 9) + "\x01", strings.Repeat("\xff", 9) + "\x02",
			strings.Repeat("\xff", 12), num(1<<63 + 1), num(1 << 63), num(math.MaxUint64 - 1)}
		for _, x := range bad {
			l := append([]string(nil), good...)
			l[i] = x
			for _, s := range []string{"", "abc"} {
				reads(t, sealed(strings.Join(l, "")+s), Frame{}, api.ErrField)
			}
		}
	}
	reads(t, sealed(body+"abc"), Frame{1, 5, 6, 7, "abc"}, api.OK)
}

// Promise 17.1: what is not sealed is ErrSum, also if it is no frame's body: shorter than a checksum, cut off, with a byte more, less or another one at any place.
func TestReadSum(t *testing.T) {
	reads(t, sealed(""), Frame{}, api.ErrField)
	for _, s := range []string{"", "a", "ab", "abc", "abcd", "\x00\x00\x00\x00\x01", filled(6030), filled(1 << 16)} {
		reads(t, s, Frame{}, api.ErrSum)
	}
	for _, f := range []Frame{{1, 0, 1, 1, ""}, {1, 1000, 1 << 30, 1 << 40, "some text"}, {2, 3, 4, 0, ""}, {2, 9, 1, 1 << 40, ""}} {
		s, e := Write(f)
		if e != api.OK {
			t.Fatalf("Write(%s) = %d", shown(f), e)
		}
		for i := range len(s) {
			reads(t, s[:i], Frame{}, api.ErrSum)
			reads(t, s[:i]+s[i+1:], Frame{}, api.ErrSum)
			for x := range 255 {
				reads(t, s[:i]+string([]byte{s[i] + byte(x+1)})+s[i+1:], Frame{}, api.ErrSum)
			}
		}
		for x := range 256 {
			reads(t, s+string([]byte{byte(x)}), Frame{}, api.ErrSum)
		}
		reads(t, bodyOf(f), Frame{}, api.ErrSum)
		reads(t, s, f, api.OK)
	}
}

// Promise 17.1: the chapter's example of Read.
func TestReadExample(t *testing.T) {
	f := Frame{Kind: Data, Flow: 4, Epoch: 2, N: 3, S: "x"}
	s, e := Write(f)
	if e != api.OK {
		t.Fatalf("Write = %d", e)
	}
	reads(t, s, f, api.OK)
	reads(t, s+"x", Frame{}, api.ErrSum)
}
