package words

import (
	"math"
	"math/big"
	"slices"
	"strings"
	"testing"

	"watershed/api"
)

// texts calls visit for all texts of up to so many of these parts.
func texts(most int, parts []string, visit func(s string)) {
	visit("")
	var longer func(s string, left int)
	longer = func(s string, left int) {
		if left == 0 {
			return
		}
		for _, part := range parts {
			visit(s + part)
			longer(s+part, left-1)
		}
	}
	longer("", most)
}

// sequences calls visit for all lists of up to so many of these texts.
func sequences(most int, l []string, visit func(l []string)) {
	visit(nil)
	var longer func(head []string, left int)
	longer = func(head []string, left int) {
		if left == 0 {
			return
		}
		for _, s := range l {
			next := append(slices.Clone(head), s)
			visit(next)
			longer(next, left-1)
		}
	}
	longer(nil, most)
}

// listed is a text, and what it is taken apart into.
type listed struct {
	s    string
	want []string
}

// checkList holds a list against what it should be.
func checkList(t *testing.T, what, s string, got, want []string) {
	t.Helper()
	if !slices.Equal(got, want) {
		t.Errorf("%s of %q = %q; want %q", what, s, got, want)
	}
}

// Promise 8.1: lines with line feeds at each place, and with bytes that separate nothing.
func TestLines(t *testing.T) {
	for _, c := range []listed{
		{"", nil},
		{"a", []string{"a"}},
		{"a\n", []string{"a"}},
		{"a\nb", []string{"a", "b"}},
		{"a\nb\n", []string{"a", "b"}},
		{"a\n\nb", []string{"a", "", "b"}},
		{"\n", []string{""}},
		{"\n\n", []string{"", ""}},
		{"\n\n\n", []string{"", "", ""}},
		{"\na", []string{"", "a"}},
		{"a\n\n", []string{"a", ""}},
		{"\n\na\n\n\nb\n\n", []string{"", "", "a", "", "", "b", ""}},
		{" ", []string{" "}},
		{"\n ", []string{"", " "}},
		{" a  b \n  ", []string{" a  b ", "  "}},
		{"# a\n#", []string{"# a", "#"}},
		{"a\r\nb\r", []string{"a\r", "b\r"}},
		{"a\rb", []string{"a\rb"}},
		{"a\vb\fc\x00d\x85e\u0085f\u2028g", []string{"a\vb\fc\x00d\x85e\u0085f\u2028g"}},
		{"\xFF\n\x80\xFE", []string{"\xFF", "\x80\xFE"}},
		{"\xE2\x80\n\xA8", []string{"\xE2\x80", "\xA8"}},
	} {
		checkList(t, "Lines", c.s, Lines(c.s), c.want)
	}
}

// Promise 8.1: all short texts: no line has a line feed, and the lines with one behind each are the text, to whose end one is put
// if it has none there.
func TestAllLines(t *testing.T) {
	texts(6, []string{"\n", "a", " ", "\r", "\xFF", "#"}, func(s string) {
		got := Lines(s)
		for _, line := range got {
			if strings.ContainsRune(line, '\n') {
				t.Errorf("Lines of %q = %q", s, got)
			}
		}
		whole := s
		if s != "" && s[len(s)-1] != '\n' {
			whole += "\n"
		}
		joined := ""
		for _, line := range got {
			joined += line + "\n"
		}
		if joined != whole {
			t.Errorf("Lines of %q = %q", s, got)
		}
	})
}

// Promise 8.1: each byte but a line feed is part of a line, and each but a space part of a word.
func TestEachByte(t *testing.T) {
	for b := range 256 {
		s := "a" + string([]byte{byte(b)}) + "b"
		lines, words := []string{s}, []string{s}
		if b == '\n' {
			lines = []string{"a", "b"}
		}
		if b == ' ' {
			words = []string{"a", "b"}
		}
		checkList(t, "Lines", s, Lines(s), lines)
		checkList(t, "Split", s, Split(s), words)
		// A byte in front of a word begins no comment, unless it is #.
		words = []string{s[1:]}
		if b == '#' {
			words = nil
		}
		if b == ' ' {
			words = []string{"b"}
		}
		checkList(t, "Split", s[1:], Split(s[1:]), words)
	}
}

// Promise 8.1: words with spaces at each place, and comments.
func TestSplit(t *testing.T) {
	for _, c := range []listed{
		{"", nil},
		{" ", nil},
		{"     ", nil},
		{"a", []string{"a"}},
		{"a b", []string{"a", "b"}},
		{"a  b", []string{"a", "b"}},
		{"  a    b   ", []string{"a", "b"}},
		{"a ", []string{"a"}},
		{" a", []string{"a"}},
		{"a  b #c", []string{"a", "b"}},
		{"a #", []string{"a"}},
		{"a # b c", []string{"a"}},
		{"a #b c d", []string{"a"}},
		{"a ## b", []string{"a"}},
		{"#", nil},
		{"# a", nil},
		{"#a b", nil},
		{"  #a b", nil},
		{"#a #b", nil},
		{"a#b", []string{"a#b"}},
		{"a# b", []string{"a#", "b"}},
		{"a#b c #d e", []string{"a#b", "c"}},
		{"a#b#", []string{"a#b#"}},
		{"a\tb", []string{"a\tb"}},
		{"\t a\t \tb", []string{"\t", "a\t", "\tb"}},
		{"\t# b", []string{"\t#", "b"}},
		{"a b\r", []string{"a", "b\r"}},
		{"a \r", []string{"a", "\r"}},
		{"\r# b", []string{"\r#", "b"}},
		{"a\nb c", []string{"a\nb", "c"}},
		{"#a\nb c", nil},
		{"\n", []string{"\n"}},
		{"\u00A0a\u2003b", []string{"\u00A0a\u2003b"}},
		{"\xFF \x80\xFE", []string{"\xFF", "\x80\xFE"}},
		{"\xE2\x80 \xA8", []string{"\xE2\x80", "\xA8"}},
		{"\xFF#a", []string{"\xFF#a"}},
		{"\x00 \x00#", []string{"\x00", "\x00#"}},
		{"a k=1 - = 07", []string{"a", "k=1", "-", "=", "07"}},
	} {
		checkList(t, "Split", c.s, Split(c.s), c.want)
	}
}

// splitBytes takes a line apart as the chapter defines it, byte by byte.
func splitBytes(l string) []string {
	var words []string
	word := ""
	for i := range len(l) + 1 {
		if i < len(l) && l[i] != ' ' {
			word += l[i : i+1]
			continue
		}
		if word != "" && word[0] == '#' {
			return words
		}
		if word != "" {
			words = append(words, word)
		}
		word = ""
	}
	return words
}

// Promise 8.1: all short lines.
func TestAllSplits(t *testing.T) {
	texts(7, []string{" ", "a", "#", "\xFF", "\n"}, func(s string) {
		checkList(t, "Split", s, Split(s), splitBytes(s))
	})
}

// Promise 8.1, rule R6: texts beyond every limit.
func TestLong(t *testing.T) {
	const n = 1 << 20
	if got := Lines(strings.Repeat("\n", n)); len(got) != n {
		t.Errorf("Lines of 2^20 line feeds are %d", len(got))
	}
	if got := Lines(strings.Repeat("a b\n", n)); len(got) != n || got[n-1] != "a b" {
		t.Errorf("Lines of 2^20 lines are %d", len(got))
	}
	if got := Split(strings.Repeat(" ", n)); len(got) != 0 {
		t.Errorf("Split of 2^20 spaces has %d words", len(got))
	}
	if got := Split(strings.Repeat("ab  ", n)); len(got) != n || got[n-1] != "ab" {
		t.Errorf("Split of 2^20 words has %d", len(got))
	}
	long := strings.Repeat("x", n)
	checkList(t, "Lines", "a long one", Lines(long+"\n"+long), []string{long, long})
	checkList(t, "Split", "a long one", Split(long+" "+long+" #"+long), []string{long, long})
	if Name(long) {
		t.Error("Name of 2^20 letters = true")
	}
}

// Promise 8.1: Name of 1 to 12 bytes, and of more; of other bytes than lower-case letters and digits; with a digit in front.
func TestName(t *testing.T) {
	for _, w := range []string{
		"a", "z", "m", "ab", "a0", "z9", "a1b2", "abcdefghijkl", "mnopqrstuvwx", "yz", "a12345678901", "abcdefghijk9", "a00000000000",
		"cluster", "op", "from", "to",
	} {
		if !Name(w) {
			t.Errorf("Name of %q = false", w)
		}
	}
	for _, w := range []string{
		"", "0", "9", "1a", "0a", "9z", "012345678901", "0bcdefghijkl",
		"abcdefghijklm", "a123456789012", "abcdefghijklmnopqrstuvwxyz", "0123456789012",
		"A", "Z", "aB", "Ab", "abcdefghijkL", "ABC",
		" ", "a ", " a", "a b", "-", "a-", "-a", "a_b", "_a", "a.b", "a=", "=", "a#", "#a", "a\n", "a\r", "a\t", "\ta", "a\x00", "\x00", "a/b", "a:", "a`", "a{", "a@",
		"\u00E9", "a\u00E9", "\u00DFa", "\u03B1", "a\u03B1", "\u0430", "\uFF41", "a\u0660", "a\u00B2", "\u00AA", "a\uFFFD", "\uFFFD",
		"\xFF", "a\xFF", "\xFFa", "a\x80b", "\xE2\x80", "a\xC3", "abcdefghijk\xFF", "\xC1\xA1", "a\xC0\xB0",
	} {
		if Name(w) {
			t.Errorf("Name of %q = true", w)
		}
	}
}

// Promise 8.1: Name with each byte at each place, at each length up to 13.
func TestNameBytes(t *testing.T) {
	const letters, digits = "abcdefghijklmnopqrstuvwxyz", "0123456789"
	for n := range 13 {
		for at := range n + 1 {
			for b := range 256 {
				l := []byte("k7q0az9m1bnzx")[:n+1]
				l[at] = byte(b)
				allowed := letters
				if at > 0 {
					allowed += digits
				}
				want := n+1 <= 12 && strings.IndexByte(allowed, byte(b)) >= 0
				if got := Name(string(l)); got != want {
					t.Errorf("Name of %q = %v; want %v", l, got, want)
				}
			}
		}
	}
}

// inDigits is an integer in decimal as the chapter defines it, with unbounded numbers.
func inDigits(v *big.Int) string {
	ten, rest, digit := big.NewInt(10), new(big.Int).Abs(v), new(big.Int)
	s := ""
	for s == "" || rest.Sign() != 0 {
		rest.DivMod(rest, ten, digit)
		s = "0123456789"[digit.Int64():digit.Int64()+1] + s
	}
	if v.Sign() < 0 {
		s = "-" + s
	}
	return s
}

// edges are integers about 0, about the powers of 2 and of 10, and at the ends of the type.
func edges() []int64 {
	l := []int64{math.MinInt64, math.MinInt64 + 1, math.MaxInt64 - 1, math.MaxInt64}
	for v := int64(-1100); v <= 1100; v++ {
		l = append(l, v)
	}
	for shift := range 63 {
		v := int64(1) << shift
		l = append(l, v-1, v, v+1, -v-1, -v, -v+1)
	}
	for v := int64(1); v <= math.MaxInt64/10; {
		v *= 10
		l = append(l, v-1, v, v+1, -v-1, -v, -v+1)
	}
	return l
}

// Promise 8.2: Number of each sign, at each length, and at the ends of the type.
func TestNumber(t *testing.T) {
	for _, c := range []struct {
		v    int64
		want string
	}{
		{0, "0"},
		{-1, "-1"},
		{7, "7"},
		{10, "10"},
		{-100, "-100"},
		{math.MaxInt64, "9223372036854775807"},
		{math.MinInt64, "-9223372036854775808"},
	} {
		if got := Number(c.v); got != c.want {
			t.Errorf("Number(%d) = %q; want %q", c.v, got, c.want)
		}
	}
	for _, v := range edges() {
		if got, want := Number(v), inDigits(big.NewInt(v)); got != want {
			t.Errorf("Number(%d) = %q; want %q", v, got, want)
		}
	}
}

// checkSigned holds Signed, and Int without bounds, against what they should return.
func checkSigned(t *testing.T, w string, want int64, e api.Errno) {
	t.Helper()
	if got, err := Signed(w); got != want || err != e {
		t.Errorf("Signed of %q = %d, %d; want %d, %d", w, got, err, want, e)
	}
	if got, err := Int(w, math.MinInt, math.MaxInt); got != int(want) || err != e {
		t.Errorf("Int of %q = %d, %d; want %d, %d", w, got, err, want, e)
	}
}

// noNumbers are words that say no number.
func noNumbers() []string {
	return []string{
		"", "-", "+", "--", "+-", "-+", "--1", "-+1", "+-1", "1-", "1+", "-1-", "1-1",
		"+0", "+1", "+7", "+9223372036854775807", "-0", "-00", "+00",
		"00", "01", "07", "-01", "-07", "000", "0001", "010", "-010", "00000000000000000000000007", "09223372036854775807", "-09223372036854775808",
		"9223372036854775808", "9223372036854775809", "9223372036854775810", "9300000000000000000", "9999999999999999999", "10000000000000000000",
		"-9223372036854775809", "-9223372036854775810", "-9999999999999999999", "-10000000000000000000",
		"18446744073709551615", "18446744073709551616", "18446744073709551617", "-18446744073709551616", "-18446744073709551617",
		"340282366920938463463374607431768211457", strings.Repeat("9", 1000), "-" + strings.Repeat("9", 1000), strings.Repeat("1", 1<<20),
		strings.Repeat("0", 1<<20), "1" + strings.Repeat("0", 1<<20), "-" + strings.Repeat("0", 1000) + "1",
		" 1", "1 ", " ", "1 2", "\t1", "1\t", "1\r", "1\n", "\n", "\r1", "1\x00", "\x001", "\x00",
		"a", "1a", "a1", "0x1", "0x", "0b1", "0o7", "x", "1_000", "_1", "1_", "1,000", "1.0", "1.", ".1", "1e3", "1E3", "0.0", "inf", "nan", "-a", "#1", "=1", "1=",
		"\xFF", "1\xFF", "\xFF1", "\x80", "-\xFF", "\u0661", "\uFF11", "\u22121", "1\u0660", "\u00B2",
		"-\x00", "- 1", "1/", "1:", "/", ":",
	}
}

// Promise 8.2: Signed of words that say a number, and of words that say none; beside an error, the number is 0.
func TestSigned(t *testing.T) {
	for _, c := range []struct {
		w    string
		want int64
	}{
		{"0", 0},
		{"-1", -1},
		{"1", 1},
		{"9", 9},
		{"10", 10},
		{"-10", -10},
		{"1000000", 1000000},
		{"9223372036854775806", math.MaxInt64 - 1},
		{"9223372036854775807", math.MaxInt64},
		{"-9223372036854775807", math.MinInt64 + 1},
		{"-9223372036854775808", math.MinInt64},
	} {
		checkSigned(t, c.w, c.want, api.OK)
	}
	for _, w := range noNumbers() {
		checkSigned(t, w, 0, api.ErrField)
	}
}

// Promise 8.2: all short words: Signed is the integer whose decimal the word is.
func TestAllSigned(t *testing.T) {
	numbers := map[string]int64{}
	for v := int64(-1000); v < 10000; v++ {
		numbers[inDigits(big.NewInt(v))] = v
	}
	parts := strings.Split("0 1 2 5 9 - + _ . x \xFF", " ")
	texts(4, append(parts, " "), func(w string) {
		if v, ok := numbers[w]; ok {
			checkSigned(t, w, v, api.OK)
		} else {
			checkSigned(t, w, 0, api.ErrField)
		}
	})
}

// Promise 8.2: each integer about the ends of the type is a number if it fits, and only then.
func TestSignedEnds(t *testing.T) {
	for d := int64(-300); d <= 300; d++ {
		for _, end := range []int64{math.MinInt64, math.MaxInt64} {
			v := new(big.Int).Add(big.NewInt(end), big.NewInt(d))
			if v.IsInt64() {
				checkSigned(t, inDigits(v), v.Int64(), api.OK)
			} else {
				checkSigned(t, inDigits(v), 0, api.ErrField)
			}
		}
	}
}

// checkInt holds Int against what it should return.
func checkInt(t *testing.T, w string, low, high, want int, e api.Errno) {
	t.Helper()
	if got, err := Int(w, low, high); got != want || err != e {
		t.Errorf("Int of %q from %d to %d = %d, %d; want %d, %d", w, low, high, got, err, want, e)
	}
}

// Promise 8.2: Int at its bounds, beyond them, with bounds that are the number itself, and with a low one above the high one.
func TestInt(t *testing.T) {
	const least, greatest = "-9223372036854775808", "9223372036854775807"
	for _, c := range []struct {
		w               string
		low, high, want int
		e               api.Errno
	}{
		{"7", 0, 9, 7, api.OK},
		{"10", 0, 9, 0, api.ErrRange},
		{"0", 0, 9, 0, api.OK},
		{"9", 0, 9, 9, api.OK},
		{"-1", 0, 9, 0, api.ErrRange},
		{"7", 7, 7, 7, api.OK},
		{"7", 8, 8, 0, api.ErrRange},
		{"7", 6, 6, 0, api.ErrRange},
		{"0", 0, 0, 0, api.OK},
		{"-1", -1, -1, -1, api.OK},
		{"-5", -5, -3, -5, api.OK},
		{"-3", -5, -3, -3, api.OK},
		{"-6", -5, -3, 0, api.ErrRange},
		{"-2", -5, -3, 0, api.ErrRange},
		{"4", 4, math.MaxInt, 4, api.OK},
		{"3", 4, math.MaxInt, 0, api.ErrRange},
		{"4", math.MinInt, 4, 4, api.OK},
		{"5", math.MinInt, 4, 0, api.ErrRange},
		{"4294967296", 0, 9, 0, api.ErrRange},
		{"4294967303", 0, 9, 0, api.ErrRange},
		{"-4294967289", 0, 9, 0, api.ErrRange},
		{least, math.MinInt, math.MaxInt, math.MinInt, api.OK},
		{least, math.MinInt, math.MinInt, math.MinInt, api.OK},
		{least, math.MinInt + 1, math.MaxInt, 0, api.ErrRange},
		{greatest, math.MinInt, math.MaxInt, math.MaxInt, api.OK},
		{greatest, math.MaxInt, math.MaxInt, math.MaxInt, api.OK},
		{greatest, math.MinInt, math.MaxInt - 1, 0, api.ErrRange},
		{greatest, 0, 9, 0, api.ErrRange},
		{least, 0, 9, 0, api.ErrRange},
		{"5", 9, 0, 0, api.ErrRange},
		{"0", 1, 0, 0, api.ErrRange},
		{"1", 1, 0, 0, api.ErrRange},
		{"0", math.MaxInt, math.MinInt, 0, api.ErrRange},
		{greatest, math.MaxInt, math.MinInt, 0, api.ErrRange},
		{least, math.MaxInt, math.MinInt, 0, api.ErrRange},
	} {
		checkInt(t, c.w, c.low, c.high, c.want, c.e)
	}
}

// Promise 8.2: a word that says no number has ErrField with any bounds, ahead of ErrRange.
func TestIntField(t *testing.T) {
	for _, w := range noNumbers() {
		for _, bounds := range [][2]int{{0, 9}, {9, 0}, {7, 7}, {1, 1}, {0, 0}, {100, 200}, {-9, -1}, {math.MinInt, math.MaxInt}, {math.MaxInt, math.MinInt}} {
			checkInt(t, w, bounds[0], bounds[1], 0, api.ErrField)
		}
	}
}

// Promise 8.2: all small numbers with all small bounds.
func TestIntBounds(t *testing.T) {
	for v := -6; v <= 6; v++ {
		w := inDigits(big.NewInt(int64(v)))
		for low := -6; low <= 6; low++ {
			for high := -6; high <= 6; high++ {
				if low <= v && v <= high {
					checkInt(t, w, low, high, v, api.OK)
				} else {
					checkInt(t, w, low, high, 0, api.ErrRange)
				}
			}
		}
	}
}

// checkOption holds Option against what it should return.
func checkOption(t *testing.T, l []string, name, want string, ok bool) {
	t.Helper()
	if got, found := Option(l, name); got != want || found != ok {
		t.Errorf("Option %q of %q = %q, %v; want %q, %v", name, l, got, found, want, ok)
	}
}

// Promise 8.2: Option of the first word that has the name, of values of any kind, and of words that have it not.
func TestOption(t *testing.T) {
	for _, c := range []struct {
		l          []string
		name, want string
		ok         bool
	}{
		{[]string{"kk=1", "k=2"}, "k", "2", true},
		{[]string{"kk=1", "k=2"}, "kk", "1", true},
		{[]string{"k=2", "kk=1"}, "kk", "1", true},
		{[]string{"k=2", "k=3"}, "k", "2", true},
		{[]string{"a", "b", "k=3"}, "k", "3", true},
		{[]string{"k="}, "k", "", true},
		{[]string{"k=", "k=3"}, "k", "", true},
		{[]string{"k==3"}, "k", "=3", true},
		{[]string{"k=a=b"}, "k", "a=b", true},
		{[]string{"k=k=4"}, "k", "k=4", true},
		{[]string{"k=\xFF a#\n"}, "k", "\xFF a#\n", true},
		{[]string{"k= 1 "}, "k", " 1 ", true},
		{[]string{"=5"}, "", "5", true},
		{[]string{"k=1", "=5"}, "", "5", true},
		{[]string{"k=1", "="}, "", "", true},
		{[]string{"==5"}, "", "=5", true},
		{[]string{"a=b=5"}, "a=b", "5", true},
		{[]string{"a=b=5"}, "a=", "", false},
		{[]string{"a==5"}, "a=", "5", true},
		{[]string{"\xFF=5"}, "\xFF", "5", true},
		{[]string{"a b=5"}, "a b", "5", true},
		{nil, "k", "", false},
		{nil, "", "", false},
		{[]string{""}, "k", "", false},
		{[]string{""}, "", "", false},
		{[]string{"k"}, "k", "", false},
		{[]string{"k", "k2"}, "k", "", false},
		{[]string{"k", "k=2"}, "k", "2", true},
		{[]string{"k=2"}, "", "", false},
		{[]string{"k=2"}, "kk", "", false},
		{[]string{"k=2"}, "K", "", false},
		{[]string{"K=2"}, "k", "", false},
		{[]string{"=k=2"}, "k", "", false},
		{[]string{" k=2"}, "k", "", false},
		{[]string{"k =2"}, "k", "", false},
		{[]string{"a=k=2"}, "k", "", false},
		{[]string{"kk=1"}, "k", "", false},
		{[]string{"k:2", "k\x00=2", "k-=2"}, "k", "", false},
		{[]string{"k=2"}, "k=2", "", false},
		{[]string{"k=2"}, "k=", "", false},
		{[]string{"k=2"}, strings.Repeat("k", 1<<20), "", false},
	} {
		checkOption(t, c.l, c.name, c.want, c.ok)
	}
}

// option is Option as the chapter defines it, byte by byte.
func option(l []string, name string) (string, bool) {
	for _, w := range l {
		if len(w) > len(name) && w[:len(name)] == name && w[len(name)] == '=' {
			return w[len(name)+1:], true
		}
	}
	return "", false
}

// Promise 8.2: all short lists of short words, with all short names.
func TestAllOptions(t *testing.T) {
	var words, names []string
	texts(3, []string{"k", "=", "a"}, func(s string) { words = append(words, s) })
	texts(2, []string{"k", "=", "a"}, func(s string) { names = append(names, s) })
	sequences(2, words, func(l []string) {
		for _, name := range names {
			want, ok := option(l, name)
			checkOption(t, l, name, want, ok)
		}
	})
}

// Promise 8.3: Split of words joined by spaces, one or more, returns these words.
func TestSplitInvertsJoin(t *testing.T) {
	words := []string{"a", "b1", "a#", "a#b", "-", "=", "k=#1", "\t", "\r", "\n", "a\nb", "\x00", "\xFF", "\x80#", "\u00A0", "\u00E9", strings.Repeat("x", 5000)}
	sequences(3, words, func(l []string) {
		for _, between := range []string{" ", "  ", "     "} {
			s := strings.Join(l, between)
			checkList(t, "Split", s, Split(s), l)
		}
	})
}

// Promise 8.3: Signed inverts Number, and what Signed takes is the Number of what it returns; Int does so within its bounds.
func TestSignedInvertsNumber(t *testing.T) {
	for _, v := range edges() {
		w := Number(v)
		checkSigned(t, w, v, api.OK)
		checkInt(t, w, int(v), int(v), int(v), api.OK)
		for _, other := range []string{"0" + w, "+" + w, "-0" + w, w + " ", " " + w, w + ".", "--" + w} {
			checkSigned(t, other, 0, api.ErrField)
		}
	}
	texts(5, []string{"0", "1", "9", "-", "+"}, func(w string) {
		if v, e := Signed(w); e == api.OK && Number(v) != w {
			t.Errorf("Signed of %q = %d, whose Number is %q", w, v, Number(v))
		}
	})
}

// The chapter's examples.
func TestExamples(t *testing.T) {
	checkList(t, "Lines", "the chapter's", Lines("a\n\nb"), []string{"a", "", "b"})
	checkList(t, "Split", "the chapter's", Split("a  b #c"), []string{"a", "b"})
	checkInt(t, "7", 0, 9, 7, api.OK)
	checkInt(t, "07", 0, 9, 0, api.ErrField)
	checkInt(t, "10", 0, 9, 0, api.ErrRange)
	checkOption(t, []string{"kk=1", "k=2"}, "k", "2", true)
}

// spoil writes over a list and behind its end.
func spoil(l []string) {
	l = l[:cap(l)]
	for i := range l {
		l[i] = "spoiled"
	}
}

// Rule R4: a list that is returned shares no memory with others, and a list that is given is not changed.
func TestResultsAreNew(t *testing.T) {
	const s = "a b\nc\n\nd  e #f"
	lines, words := Lines(s), Split(s)
	wantLines, wantWords := slices.Clone(lines), slices.Clone(words)
	for _, l := range [][]string{Lines(s), Split(s), Lines(lines[0]), Split(lines[0])} {
		spoil(l)
		checkList(t, "Lines", s, lines, wantLines)
		checkList(t, "Split", s, words, wantWords)
	}
	checkList(t, "Lines", s, Lines(s), []string{"a b", "c", "", "d  e #f"})
	checkList(t, "Split", s, Split(s), []string{"a", "b\nc\n\nd", "e"})
	l := []string{"k=1", "a=2", "k=3", "behind"}
	checkOption(t, l[:2], "k", "1", true)
	checkOption(t, l[:2], "b", "", false)
	checkList(t, "Option", "the list", l, []string{"k=1", "a=2", "k=3", "behind"})
}
