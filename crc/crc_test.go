package crc

import (
	"hash/crc32"
	"math"
	"strings"
	"testing"

	"watershed/api"
)

// library is the check sum as Go's library computes it.
func library(s string) uint32 {
	return crc32.Checksum([]byte(s), crc32.MakeTable(crc32.Castagnoli))
}

// head is the four bytes that a text's seal begins with.
func head(s string) string {
	sum := library(s)
	return string([]byte{byte(sum), byte(sum >> 8), byte(sum >> 16), byte(sum >> 24)})
}

// someTexts are short and long ones, of any bytes, some beyond every limit of api.
func someTexts() []string {
	l := []string{
		"", "a", "ab", "abc", "abcd", "abcde", "123456789", "h\u00E9", "\xFF\xFE\x80",
		strings.Repeat("\x00", 3), strings.Repeat("\x00", 4), strings.Repeat("\x00", 40),
		strings.Repeat("\xFF", 3), strings.Repeat("\xFF", 4), strings.Repeat("\xFF", 40),
		strings.Repeat("x", api.MaxBytes), strings.Repeat("xyz", api.MaxBytes), strings.Repeat("\x01\x80", 1<<15),
	}
	all := ""
	for b := range 256 {
		l = append(l, string([]byte{byte(b)}))
		all += string([]byte{byte(b)})
	}
	return append(l, all)
}

// flip is s with the bits changed that are set in pattern, the first one of them at this bit of s.
func flip(s string, first int, pattern uint64) string {
	b := []byte(s)
	for i := range 64 {
		if pattern>>i&1 == 1 {
			b[(first+i)/8] ^= 1 << ((first + i) % 8)
		}
	}
	return string(b)
}

// bursts are changes within so many consecutive bits: the first and the last one, and some or none between them.
func bursts(width int) []uint64 {
	if width == 1 {
		return []uint64{1}
	}
	ends := uint64(1)<<(width-1) | 1
	between := uint64(1)<<(width-1) - 1
	l := []uint64{ends, ends | between}
	for _, mixed := range []uint64{0x5555555555555555, 0xCCCCCCCCCCCCCCCC, 0x9E3779B97F4A7C15, 0xBF58476D1CE4E5B9} {
		l = append(l, ends|mixed&between)
	}
	return l
}

// Promise 3.1: Sum of nothing, of one byte, and of texts with a known check sum.
func TestSum(t *testing.T) {
	for _, c := range []struct {
		s    string
		want uint32
	}{
		{"", 0},
		{"123456789", 0xE3069283},
		{"\x00", 0x527D5351},
		{"a", 0xC1D04330},
		{"abc", 0x364B3FB7},
		// The four that RFC 3720 gives in its appendix B.4.
		{strings.Repeat("\x00", 32), 0x8A9136AA},
		{strings.Repeat("\xFF", 32), 0x62A8AB43},
		{"\x00\x01\x02\x03\x04\x05\x06\x07\x08\x09\x0A\x0B\x0C\x0D\x0E\x0F\x10\x11\x12\x13\x14\x15\x16\x17\x18\x19\x1A\x1B\x1C\x1D\x1E\x1F", 0x46DD794E},
		{"\x1F\x1E\x1D\x1C\x1B\x1A\x19\x18\x17\x16\x15\x14\x13\x12\x11\x10\x0F\x0E\x0D\x0C\x0B\x0A\x09\x08\x07\x06\x05\x04\x03\x02\x01\x00", 0x113FDB5C},
	} {
		if got := Sum(c.s); got != c.want {
			t.Errorf("Sum(%q) = %08X; want %08X", c.s, got, c.want)
		}
	}
	for _, s := range someTexts() {
		if got, want := Sum(s), library(s); got != want {
			t.Errorf("Sum of %d bytes = %08X; want %08X", len(s), got, want)
		}
	}
}

// Promise 3.1: More behind a known check sum, behind that of nothing, and with nothing more.
func TestMore(t *testing.T) {
	if got := More(Sum("1234"), "56789"); got != 0xE3069283 {
		t.Errorf("More(Sum(1234), 56789) = %08X; want E3069283", got)
	}
	for _, s := range someTexts() {
		if got, want := More(0, s), library(s); got != want {
			t.Errorf("More(0) of %d bytes = %08X; want %08X", len(s), got, want)
		}
	}
	for _, sum := range []uint32{0, 1, 0x80000000, 0xE3069283, math.MaxUint32} {
		if got := More(sum, ""); got != sum {
			t.Errorf("More(%08X) of nothing = %08X", sum, got)
		}
		for _, s := range []string{"\x00", "a", "abcd", "\xFF\x80\x00"} {
			want := crc32.Update(sum, crc32.MakeTable(crc32.Castagnoli), []byte(s))
			if got := More(sum, s); got != want {
				t.Errorf("More(%08X, %q) = %08X; want %08X", sum, s, got, want)
			}
		}
	}
}

// Promise 3.1: Seal of nothing, and with four bytes that are all different, the least significant one first.
func TestSeal(t *testing.T) {
	for _, c := range []struct{ s, want string }{
		{"", "\x00\x00\x00\x00"},
		{"\x00", "\x51\x53\x7D\x52\x00"},
		{"123456789", "\x83\x92\x06\xE3123456789"},
		{"abc", "\xB7\x3F\x4B\x36abc"},
	} {
		if got := Seal(c.s); got != c.want {
			t.Errorf("Seal(%q) = %q; want %q", c.s, got, c.want)
		}
	}
	for _, s := range someTexts() {
		if got := Seal(s); got != head(s)+s {
			t.Errorf("Seal of %d bytes has %d bytes, or others than it should", len(s), len(got))
		}
	}
}

// opens tells whether Open finds s in what is sealed.
func opens(t *testing.T, sealed, s string) {
	t.Helper()
	if got, ok := Open(sealed); got != s || !ok {
		t.Errorf("Open(%.40q) = %.40q, %v; want %.40q, true", sealed, got, ok, s)
	}
}

// rejects tells whether Open finds nothing in what is not sealed.
func rejects(t *testing.T, s string) {
	t.Helper()
	if got, ok := Open(s); got != "" || ok {
		t.Errorf("Open(%.40q) = %.40q, %v; want nothing, false", s, got, ok)
	}
}

// Promise 3.1: Open of what Seal has sealed, the empty text and a sealed one among it.
func TestOpen(t *testing.T) {
	opens(t, "\x00\x00\x00\x00", "")
	opens(t, "\x83\x92\x06\xE3123456789", "123456789")
	for _, s := range someTexts() {
		opens(t, Seal(s), s)
		opens(t, Seal(Seal(s)), Seal(s))
	}
}

// Promise 3.1: Open of fewer than four bytes, and of four that are not the check sum of nothing.
func TestOpenShort(t *testing.T) {
	for _, s := range []string{"", "\x00", "\x00\x00", "\x00\x00\x00", "a", "abc", "\xFF\xFF\xFF"} {
		rejects(t, s)
	}
	for _, s := range []string{"\x01\x00\x00\x00", "\x00\x00\x00\x01", "abcd", "\xFF\xFF\xFF\xFF"} {
		rejects(t, s)
	}
}

// Promise 3.1: Open of a sealed text with a bit changed, at each place.
func TestOpenChanged(t *testing.T) {
	for _, s := range []string{"", "a", "abc", "123456789", strings.Repeat("\x00", 40)} {
		sealed := Seal(s)
		for bit := range 8 * len(sealed) {
			rejects(t, flip(sealed, bit, 1))
		}
	}
}

// Promise 3.1: Open of a sealed text with a byte more or fewer, at either end and behind the check sum.
func TestOpenOtherLength(t *testing.T) {
	for _, s := range []string{"", "a", "abc", "123456789", strings.Repeat("\x00", 40)} {
		sealed := Seal(s)
		for n := range len(sealed) {
			rejects(t, sealed[:n])
		}
		for b := range 256 {
			more := string([]byte{byte(b)})
			rejects(t, sealed+more)
			rejects(t, sealed[:4]+more+s)
		}
		if s != "" {
			rejects(t, sealed[1:])
			rejects(t, sealed[:4]+s[1:])
		}
	}
	// Nothing's seal is of noughts alone, and so is any piece of it.
	rejects(t, Seal("")[1:])
	rejects(t, "x"+Seal("abc"))
}

// Promise 3.1: the check sum's bytes in another order, or the other way round, are no seal.
func TestOpenOtherOrder(t *testing.T) {
	rejects(t, "\xE3\x06\x92\x83123456789")
	rejects(t, "123456789\x83\x92\x06\xE3")
	rejects(t, "\x7C\x6D\xF9\x1C123456789")
}

// Promise 3.2: wherever a text is divided, More leads from the first piece's check sum to the whole one's.
func TestMoreComposes(t *testing.T) {
	for _, s := range someTexts() {
		whole := Sum(s)
		step := 1 + len(s)/50
		for i := 0; i <= len(s); i += step {
			if got := More(Sum(s[:i]), s[i:]); got != whole {
				t.Errorf("%d bytes divided at %d: %08X; want %08X", len(s), i, got, whole)
			}
			j := i + (len(s)-i)/2
			if got := More(More(Sum(s[:i]), s[i:j]), s[j:]); got != whole {
				t.Errorf("%d bytes divided at %d and %d: %08X; want %08X", len(s), i, j, got, whole)
			}
		}
	}
}

// Promise 3.2: bits changed within 1 to 32 consecutive ones change the check sum, and Open detects them.
// Changes that reach from the check sum into the text are held against the definition in TestOpenAcross.
func TestBursts(t *testing.T) {
	for _, s := range []string{"a", "abcd", "123456789", strings.Repeat("\x00", 40), strings.Repeat("\xFF\x01", 30)} {
		sum, sealed := Sum(s), Seal(s)
		for width := 1; width <= 32; width++ {
			for _, pattern := range bursts(width) {
				for first := 0; first+width <= 8*len(s); first++ {
					if got := Sum(flip(s, first, pattern)); got == sum {
						t.Errorf("%q: bits %X from %d on changed, and the check sum is the same", s, pattern, first)
					}
					rejects(t, sealed[:4]+flip(s, first, pattern))
				}
				for first := 0; first+width <= 32; first++ {
					rejects(t, flip(sealed, first, pattern))
				}
			}
		}
	}
}

// Promise 3.1: changes on both sides of the check sum's end. A few of them, such as the one from Seal("\x00") to
// Seal("\x03"), make another sealed text: Open answers that one, as it is the one whose Seal is given.
func TestOpenAcross(t *testing.T) {
	other := flip(Seal("\x00"), 2, 0xC4D43CFD)
	if other != Seal("\x03") {
		t.Errorf("%q is not Seal(3) = %q", other, Seal("\x03"))
	}
	opens(t, other, "\x03")
	for _, s := range []string{"a", "abcd", "123456789"} {
		sealed := Seal(s)
		for width := 2; width <= 32; width++ {
			for _, pattern := range bursts(width) {
				for first := 33 - width; first < 32 && first+width <= 8*len(sealed); first++ {
					changed := flip(sealed, first, pattern)
					if changed[:4] == head(changed[4:]) {
						opens(t, changed, changed[4:])
					} else {
						rejects(t, changed)
					}
				}
			}
		}
	}
}
