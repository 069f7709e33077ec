package fence

import (
	"math"
	"math/rand"
	"slices"
	"strconv"
	"strings"
	"testing"

	"watershed/api"
	"watershed/disk"
	"watershed/wal"
)

// Promises 15.1 and 15.2: the chapter's examples.
func TestExample(t *testing.T) {
	d := disk.New()
	l := opened(t, d, "a", 2)
	if numbers(l) != [4]int{} {
		t.Errorf("a new log: Term, Base, Next and Synced are %v", numbers(l))
	}
	for i, step := range []struct {
		c call
		n int
		e api.Errno
	}{
		{claims(1), 0, api.OK},
		{appends(1, "a"), 1, api.OK},
		{claims(3), 2, api.OK},
		{appends(1, "b"), 0, api.ErrTerm},
		{appends(4, "b"), 0, api.ErrState},
		{appends(0, "b"), 0, api.ErrRange},
		{claims(2), 0, api.ErrTerm},
		{appends(3, "b"), 3, api.OK},
	} {
		if n, e := step.c.make(l); n != step.n || e != step.e {
			t.Errorf("step %d, %v = %d, %d; want %d, %d", i, step.c, n, e, step.n, step.e)
		}
	}
	l = opened(t, d, "a", 2)
	if l.Term() != 3 {
		t.Errorf("Term = %d", l.Term())
	}
	if x, e := l.Get(1); x != (Entry{1, false, "a"}) || e != api.OK {
		t.Errorf("Get(1) = %v, %d", x, e)
	}
	if want := []Entry{{1, true, ""}, {1, false, "a"}, {3, true, ""}, {3, false, "b"}}; !slices.Equal(all(t, l), want) {
		t.Errorf("the entries are %v", all(t, l))
	}
}

// Promises 15.1 and 15.2: the bytes of entries, written out, in a log of wal.
func TestBytes(t *testing.T) {
	d := disk.New()
	l := opened(t, d, "a", 2)
	did(t, l, claims(1), appends(1, "a"), appends(1, ""), claims(63), appends(63, "bc"), claims(64), appends(64, "\x00\xff"), claims(1<<30), appends(1<<30, "d"))
	want := []string{"\x03", "\x02a", "\x02", "\x7f", "\x7ebc", "\x81\x01", "\x80\x01\x00\xff", "\x81\x80\x80\x80\x08", "\x80\x80\x80\x80\x08d"}
	if got := rawOf(t, d); !slices.Equal(got, want) {
		t.Errorf("the records are %q; want %q", got, want)
	}
	if want := []string{"a1", "a2", "a3", "a4", "a5"}; !slices.Equal(d.Names(), want) {
		t.Errorf("the files are %q; want %q", d.Names(), want)
	}
	before := all(t, l)
	if again := all(t, opened(t, d, "a", 1)); !slices.Equal(again, before) {
		t.Errorf("opened again, the entries are %v; they were %v", again, before)
	}
}

// Promise 15.1: Open returns the error of wal.Open, also where a record is not valid.
func TestOpenErrors(t *testing.T) {
	names := []string{"", "A", "a-b", "1a", "a1", "abcdefgh1", "abcdefghi", "ä", strings.Repeat("a", 100000)}
	pers := []int{0, -1, 65, math.MinInt, math.MaxInt}
	good, bad := rawDisk(t, 2, claimOf(3), recordOf(3, "x")), rawDisk(t, 2, claimOf(3), "")
	off := bad.Copy()
	happens(off, powerFails())
	for _, name := range append(names, "a", "b", "abcdefgh") {
		for _, per := range append(pers, 1, 2, 64) {
			want := api.OK
			if slices.Contains(pers, per) {
				want = api.ErrRange
			}
			if slices.Contains(names, name) {
				want = api.ErrField
			}
			if l, e := Open(good, name, per); e != want || (l == nil) != (e != api.OK) {
				t.Errorf("Open(%q, %d) = %v, %d; want %d", name, per, l, e, want)
			}
			if name == "a" && want == api.OK {
				want = api.ErrField
			}
			if l, e := Open(bad, name, per); e != want || (l == nil) != (e != api.OK) {
				t.Errorf("Open(%q, %d) = %v, %d; want %d", name, per, l, e, want)
			}
			if l, e := Open(off, name, per); l != nil || e != api.ErrDown {
				t.Errorf("Open(%q, %d) without power = %v, %d", name, per, l, e)
			}
		}
	}
	// The step that makes the last file last fails ahead of what is not valid.
	w, _ := wal.Open(bad, "a", 2)
	w.Append("")
	bad.Arm(0)
	if l, e := Open(bad, "a", 2); l != nil || e != api.ErrDown || !bad.Down() {
		t.Errorf("Open = %v, %d, Down = %v", l, e, bad.Down())
	}
}

// refused are texts that are the encoding of no entry.
func refused() map[string]string {
	return map[string]string{
		"nothing":                       "",
		"the term 0":                    "\x00",
		"the term 0 with a text":        "\x00abc",
		"a claim of the term 0":         "\x01",
		"a claim with a text":           claimOf(9) + "x",
		"a claim with a byte of 0":      claimOf(9) + "\x00",
		"a claim with a long text":      claimOf(9) + filled(4000),
		"the term 2^30 + 1":             recordOf(1<<30+1, ""),
		"the term 2^30 + 1 with a text": recordOf(1<<30+1, "x"),
		"a claim of the term 2^30 + 1":  claimOf(1<<30 + 1),
		"the term 2^31":                 recordOf(1<<31, ""),
		"the term 2^32 + 9":             recordOf(1<<32+9, ""),
		"a claim of the term 2^62":      claimOf(1 << 62),
		"2^64 - 1":                      numbered(math.MaxUint64, ""),
		"2^64 - 2":                      numbered(math.MaxUint64-1, ""),
		"2^63 + 18":                     numbered(1<<63+18, ""),
		"a number past 64 bits":         "\xff\xff\xff\xff\xff\xff\xff\xff\xff\x02",
		"an endless number":             strings.Repeat("\x80", 20),
		"a number that is cut off":      "\x92",
		"a number in one byte more":     "\x92\x00",
		"the same with a text":          "\x92\x00x",
		"a claim in one byte more":      "\x93\x00",
		"a claim in two bytes more":     "\x93\x80\x00",
		"a text of 4001 bytes":          recordOf(9, filled(4001)),
		"a text of 4095 bytes":          recordOf(9, filled(4095)),
		"a text of 4001 bytes at 2^30":  recordOf(1<<30, filled(4001)),
	}
}

// accepted are encodings of entries that may stand behind one of the term 8, with what they are.
func accepted() map[string]Entry {
	return map[string]Entry{
		"\x10":                        {8, false, ""},
		"\x10x":                       {8, false, "x"},
		"\x12":                        {9, false, ""},
		"\x13":                        {9, true, ""},
		"\x10\x00":                    {8, false, "\x00"},
		"\x12\xff\x80":                {9, false, "\xff\x80"},
		recordOf(8, filled(3999)):     {8, false, filled(3999)},
		recordOf(8, filled(4000)):     {8, false, filled(4000)},
		recordOf(1<<30, ""):           {1 << 30, false, ""},
		recordOf(1<<30, filled(4000)): {1 << 30, false, filled(4000)},
		claimOf(1 << 30):              {1 << 30, true, ""},
		claimOf(1<<30 - 1):            {1<<30 - 1, true, ""},
		recordOf(1000, claimOf(1)):    {1000, false, claimOf(1)},
		recordOf(1000, "a\nb c#é"):    {1000, false, "a\nb c#é"},
	}
}

// Promise 15.1: what is no entry's encoding is refused; alone, first, in between and last.
func TestRefused(t *testing.T) {
	for what, s := range refused() {
		for _, raw := range [][]string{{s}, {s, claimOf(9)}, {claimOf(8), s}, {claimOf(8), recordOf(8, "x"), s, recordOf(1<<30, "y")}} {
			for _, per := range []int{1, 3} {
				if l, e := Open(rawDisk(t, per, raw...), "a", per); l != nil || e != api.ErrField {
					t.Errorf("%s: Open = %v, %d", what, l, e)
				}
			}
		}
	}
}

// Promises 15.1 and 15.2: what is an entry's encoding is that entry, alone or behind others, whoever wrote it.
func TestAccepted(t *testing.T) {
	for s, want := range accepted() {
		for _, before := range [][]string{nil, {claimOf(8)}, {recordOf(8, "x")}, {claimOf(1), claimOf(7), recordOf(7, ""), recordOf(8, "")}} {
			l := opened(t, rawDisk(t, 2, append(slices.Clone(before), s)...), "a", 2)
			n := len(before)
			if x, e := l.Get(n); x != want || e != api.OK {
				t.Errorf("Get(%d) = %v, %d; want %v", n, x, e, want)
			}
			if numbers(l) != [4]int{want.Term, 0, n + 1, n + 1} {
				t.Errorf("Term, Base, Next and Synced are %v", numbers(l))
			}
		}
	}
}

// Promise 15.1: the first entry may be of any term and need not be a claim, a record's term may be greater than the one before it, and only a lesser term, or a claim of the same one, is not valid.
func TestOrder(t *testing.T) {
	for _, c := range []struct {
		raw   []string
		valid bool
	}{
		{nil, true},
		{[]string{recordOf(5, "x")}, true},
		{[]string{claimOf(1 << 30)}, true},
		{[]string{recordOf(5, "x"), recordOf(6, "y")}, true},
		{[]string{recordOf(5, "x"), claimOf(6)}, true},
		{[]string{recordOf(5, "x"), claimOf(5)}, false},
		{[]string{claimOf(5), claimOf(5)}, false},
		{[]string{claimOf(5), recordOf(5, ""), recordOf(5, "")}, true},
		{[]string{claimOf(5), recordOf(4, "")}, false},
		{[]string{recordOf(5, ""), recordOf(4, "")}, false},
		{[]string{claimOf(5), claimOf(4)}, false},
		{[]string{recordOf(1, ""), recordOf(9, ""), recordOf(8, "")}, false},
		{[]string{recordOf(1<<30, ""), claimOf(1 << 30)}, false},
		{[]string{recordOf(1<<30, ""), recordOf(1, "")}, false},
		{[]string{claimOf(63), recordOf(63, ""), recordOf(64, ""), claimOf(65)}, true},
	} {
		for _, per := range []int{1, 2, 64} {
			l, e := Open(rawDisk(t, per, c.raw...), "a", per)
			if want := map[bool]api.Errno{false: api.ErrField}[c.valid]; e != want || (l != nil) != c.valid {
				t.Errorf("%q: Open = %v, %d; want %d", c.raw, l, e, want)
			}
		}
	}
}

// Promise 15.1: all short sequences of texts that are entries or nearly are, held against the definition.
func TestAllRaw(t *testing.T) {
	texts := []string{claimOf(1), recordOf(1, "x"), claimOf(2), recordOf(2, ""), claimOf(3), recordOf(3, "y"), "\x01", ""}
	for length := range 5 {
		sequences(texts, length, func(raw []string) {
			p := newRawPair(t, 2, raw...)
			if p.l != nil {
				p.do(claims(2), claims(3), appends(3, "z"), opens(1)).same()
			}
		})
	}
}

// newRawPair opens a log and its model on copies of a disk with any texts, whether or not that is refused.
func newRawPair(t *testing.T, per int, raw ...string) *pair {
	t.Helper()
	return newPair(t, rawDisk(t, per, raw...), "a", per).same()
}

// Promise 15.1: a log that is refused leaves its disk as it is, with what lasts, the files that are no part of it, and the steps that are left.
func TestRefusedChangesNothing(t *testing.T) {
	d := rawDisk(t, 2, claimOf(3), recordOf(3, "x"), recordOf(2, "y"))
	d.Append("a2", "torn")
	d.Append("a4", "ignored")
	d.Append("a77", "ignored")
	d.Append("b1", "another")
	for _, steps := range []int{-1, 3, 4} {
		d.Arm(steps)
		before := d.Copy()
		if l, e := Open(d, "a", 2); l != nil || e != api.ErrField {
			t.Errorf("Open = %v, %d", l, e)
		}
		if what := unlike(d, before); what != "" {
			t.Errorf("with %d steps left: %s", steps, what)
		}
	}
	// With fewer steps, the error is that of wal.Open, which has done what it could.
	for steps := range 3 {
		d, want := d.Copy(), d.Copy()
		d.Arm(steps)
		want.Arm(steps)
		wal.Open(want, "a", 2)
		if l, e := Open(d, "a", 2); l != nil || e != api.ErrDown {
			t.Errorf("Open = %v, %d", l, e)
		}
		if what := unlike(d, want); what != "" {
			t.Errorf("with %d steps left: %s", steps, what)
		}
	}
}

// Promise 15.1: a log that is opened does what wal.Open does, to the files that are no part of it too, in as many steps.
func TestOpenSteps(t *testing.T) {
	d := rawDisk(t, 2, claimOf(3), recordOf(3, "x"), recordOf(3, "y"))
	d.Append("a2", "torn")
	d.Append("a4", "ignored")
	for steps := -1; steps < 5; steps++ {
		d, want := d.Copy(), d.Copy()
		d.Arm(steps)
		want.Arm(steps)
		_, wantE := wal.Open(want, "a", 2)
		if l, e := Open(d, "a", 2); (l == nil) != (e != api.OK) || e != wantE {
			t.Errorf("Open = %v, %d; want %d", l, e, wantE)
		}
		if what := unlike(d, want); what != "" {
			t.Errorf("with %d steps left: %s", steps, what)
		}
	}
}

// The terms that are none, and those of a log and around them.
var (
	noTerms  = []int{0, -1, -2, 1<<30 + 1, 1 << 31, 1<<32 + 5, math.MinInt, math.MaxInt, math.MinInt32}
	logTerms = []int{0, 1, 2, 5, 63, 64, 1<<30 - 1, 1 << 30}
)

// at is a log whose last entry has a term, or a log without entries if that is 0, on a new disk.
func at(t *testing.T, term int) (*Log, *disk.Disk) {
	t.Helper()
	d := disk.New()
	l := opened(t, d, "a", 2)
	if term > 0 {
		did(t, l, claims(term), appends(term, "x"))
	}
	return l, d
}

// Promise 15.1: Claim of each term at each term of a log, and that one which is refused changes nothing.
func TestClaim(t *testing.T) {
	for _, now := range logTerms {
		for _, term := range slices.Concat(noTerms, logTerms) {
			l, d := at(t, now)
			before, beforeDisk, next := numbers(l), d.Copy(), l.Next()
			want := api.OK
			if term <= now {
				want = api.ErrTerm
			}
			if term < 1 || term > 1<<30 {
				want = api.ErrRange
			}
			n, e := l.Claim(term)
			if want == api.OK {
				x, _ := l.Get(next)
				if n != next || e != api.OK || x != (Entry{term, true, ""}) || numbers(l) != [4]int{term, 0, next + 1, next + 1} {
					t.Errorf("at %d: Claim(%d) = %d, %d, the entry is %v; Term, Base, Next and Synced are %v", now, term, n, e, x, numbers(l))
				}
				continue
			}
			if n != 0 || e != want || numbers(l) != before {
				t.Errorf("at %d: Claim(%d) = %d, %d; want %d", now, term, n, e, want)
			}
			if what := unlike(d, beforeDisk); what != "" {
				t.Errorf("at %d: Claim(%d): %s", now, term, what)
			}
		}
	}
}

// may is what the chapter says of a term that wants to write.
func may(now, term int) api.Errno {
	switch {
	case term < 1 || term > 1<<30:
		return api.ErrRange
	case term < now:
		return api.ErrTerm
	case term > now:
		return api.ErrState
	}
	return api.OK
}

// Promises 15.1 and 15.2: Append, Sync and Drop with each term at each term of a log, and that one which is refused changes nothing; its number and its text do not count then.
func TestMay(t *testing.T) {
	for _, now := range logTerms {
		for _, term := range slices.Concat(noTerms, logTerms) {
			for _, c := range []call{appends(term, "y"), appends(term, filled(4001)), syncs(term), drops(term, 0), drops(term, 100), drops(term, math.MinInt)} {
				l, d := at(t, now)
				before, beforeDisk := numbers(l), d.Copy()
				want := may(now, term)
				if want == api.OK && len(c.s) > 4000 {
					want = api.ErrLong
				}
				n, e := c.make(l)
				if e != want || e != api.OK && n != 0 {
					t.Errorf("at %d: %v = %d, %d; want %d", now, c, n, e, want)
				}
				if e == api.OK {
					continue
				}
				if what := unlike(d, beforeDisk); what != "" || numbers(l) != before {
					t.Errorf("at %d: %v: Term, Base, Next and Synced are %v; %s", now, c, numbers(l), what)
				}
			}
		}
	}
}

// Promises 15.1 and 15.2: nobody may write to a log without entries ahead of a claim.
func TestNoTerm(t *testing.T) {
	for _, term := range []int{1, 2, 1 << 30} {
		p := newPair(t, disk.New(), "a", 1).do(appends(term, "x"), syncs(term), drops(term, 0)).same()
		if n, e := p.l.Append(term, ""); n != 0 || e != api.ErrState {
			t.Errorf("Append(%d) = %d, %d", term, n, e)
		}
		p.do(claims(term), appends(term, "x"), syncs(term), drops(term, 2)).same()
	}
}

// Promise 15.1: texts of each length around the bound, and of any bytes, are read again as they were written.
func TestTexts(t *testing.T) {
	every := make([]byte, 256)
	for i := range every {
		every[i] = byte(i)
	}
	texts := []string{"", "a", "\x00", "\xff\xfe", string(every), claimOf(2), recordOf(1, "x"), filled(126), filled(127), filled(128), filled(3998), filled(3999), filled(4000)}
	for _, term := range []int{1, 63, 64, 1 << 30} {
		d := disk.New()
		l := opened(t, d, "a", 3)
		did(t, l, claims(term))
		for i, s := range texts {
			did(t, l, appends(term, s))
			for _, long := range []int{4001, 4002, 4090, 4095, 4096, 4097, 5000, 1 << 20} {
				if n, e := l.Append(term, filled(long)); n != 0 || e != api.ErrLong || l.Next() != i+2 {
					t.Errorf("Append(%d, %d bytes) = %d, %d", term, long, n, e)
				}
			}
		}
		for _, l := range []*Log{l, opened(t, d, "a", 1)} {
			for i, s := range texts {
				if x, e := l.Get(i + 1); x != (Entry{term, false, s}) || e != api.OK {
					t.Errorf("Get(%d) = %v, %d", i+1, x, e)
				}
			}
		}
	}
}

// Promise 15.1: with the power failing at each of its steps, Claim returns the error of wal's Append, or that of its Sync, in which case the claim counts.
func TestClaimSteps(t *testing.T) {
	// In the last file, the steps are one to write and one to sync.
	for steps, want := range []struct {
		e api.Errno
		n [4]int
	}{
		{api.ErrDown, [4]int{2, 0, 2, 1}},
		{api.ErrDown, [4]int{5, 0, 3, 1}},
		{api.OK, [4]int{5, 0, 3, 3}},
	} {
		d := disk.New()
		l := opened(t, d, "a", 3)
		did(t, l, claims(2), appends(2, "x"))
		d.Arm(steps)
		n, e := l.Claim(5)
		if e != want.e || n != map[bool]int{true: 2}[e == api.OK] || numbers(l) != want.n || d.Down() != (e != api.OK) {
			t.Errorf("%d steps: Claim(5) = %d, %d; Term, Base, Next and Synced are %v; want %v", steps, n, e, numbers(l), want.n)
		}
		// What counts is to be seen at once, but the log has failed.
		if x, e := l.Get(2); (e == api.OK) != (steps > 0) || e == api.OK && x != (Entry{5, true, ""}) {
			t.Errorf("%d steps: Get(2) = %v, %d", steps, x, e)
		}
		if steps < 2 {
			d.Mend([]int{100})
			if n, e := l.Claim(6); n != 0 || e != api.ErrDown {
				t.Errorf("Claim(6) = %d, %d", n, e)
			}
		}
	}
	// In a new file, one to sync what was before, one to write, and one to sync.
	for steps := range 5 {
		for _, records := range []int{1, 2, 3, 4} {
			p := newPair(t, disk.New(), "a", 2).do(claims(2))
			for range records {
				p.do(appends(2, "x"))
			}
			p.do(arms(steps), claims(5)).same()
			p.do(appends(5, "y"), appends(2, "y"), claims(5), claims(6), syncs(5), drops(5, 9)).same()
			p.do(crashes(2, 7), claims(9), appends(9, "z")).same()
		}
	}
}

// Promise 15.1: a claim lasts once it is made, and all that was before it.
func TestClaimLasts(t *testing.T) {
	for per := 1; per < 5; per++ {
		d := disk.New()
		l := opened(t, d, "a", per)
		did(t, l, claims(1), appends(1, "a"), appends(1, "b"), claims(4))
		want := all(t, l)
		did(t, l, appends(4, "c"))
		d.Mend(nil)
		if l := opened(t, d, "a", per); !slices.Equal(all(t, l)[:4], want) || l.Term() != 4 {
			t.Errorf("the entries are %v; want %v", all(t, l), want)
		}
	}
}

// Promises 15.1 and 15.2: the errors of wal: a disk that is full, a disk without power, and a log that has failed, each behind the errors of the term and of the text.
func TestErrorsOfWal(t *testing.T) {
	d := disk.New()
	l := opened(t, d, "a", 2)
	did(t, l, claims(3), appends(3, "x"))
	s, _ := d.Read("a1")
	d.Append("b", filled(disk.Room-len(s)))
	if n, e := l.Append(3, "y"); n != 0 || e != api.ErrFull {
		t.Errorf("Append on a full disk = %d, %d", n, e)
	}
	if n, e := l.Claim(4); n != 0 || e != api.ErrFull || l.Term() != 3 || l.Next() != 2 {
		t.Errorf("Claim on a full disk = %d, %d, Term = %d", n, e, l.Term())
	}
	d.Remove("b")
	did(t, l, appends(3, "y"), claims(4))
	happens(d, powerFails())
	for range 2 {
		for _, c := range []struct {
			c call
			e api.Errno
		}{
			{appends(0, filled(4001)), api.ErrRange}, {claims(0), api.ErrRange}, {syncs(0), api.ErrRange}, {drops(0, 2), api.ErrRange},
			{appends(3, filled(4001)), api.ErrTerm}, {claims(4), api.ErrTerm}, {syncs(3), api.ErrTerm}, {drops(3, 2), api.ErrTerm},
			{appends(5, filled(4001)), api.ErrState}, {syncs(5), api.ErrState}, {drops(5, 2), api.ErrState},
			{appends(4, filled(4001)), api.ErrLong},
			{appends(4, "z"), api.ErrDown}, {claims(5), api.ErrDown}, {syncs(4), api.ErrDown}, {drops(4, 2), api.ErrDown},
		} {
			if n, e := c.c.make(l); n != 0 || e != c.e {
				t.Errorf("%v without power = %d, %d; want %d", c.c, n, e, c.e)
			}
		}
		if numbers(l) != [4]int{4, 0, 4, 4} {
			t.Errorf("Term, Base, Next and Synced are %v", numbers(l))
		}
		// The power is back, but the log has failed.
		d.Mend(nil)
	}
}

// Promise 15.1: where a further file would have the number 1000, Claim and Append are ErrFull, and the term stays.
func TestLastFile(t *testing.T) {
	d := rawDisk(t, 1, claimOf(2))
	s, _ := d.Read("a1")
	d.Remove("a1")
	d.Append("a999", s)
	p := newPair(t, d, "a", 1).do(claims(3), appends(2, "x"), syncs(2), drops(2, 1)).same()
	if n, e := p.l.Claim(3); n != 0 || e != api.ErrFull || p.l.Term() != 2 {
		t.Errorf("Claim(3) = %d, %d, Term = %d", n, e, p.l.Term())
	}
}

// Promise 15.2: Sync makes what was written last, in one step, or in none where all does.
func TestSync(t *testing.T) {
	d := disk.New()
	l := opened(t, d, "a", 2)
	did(t, l, claims(2), appends(2, "x"), appends(2, "y"))
	if l.Synced() != 2 {
		t.Errorf("Synced = %d", l.Synced())
	}
	if e := l.Sync(1); e != api.ErrTerm || l.Synced() != 2 {
		t.Errorf("Sync(1) = %d, Synced = %d", e, l.Synced())
	}
	d.Arm(1)
	for range 2 {
		if e := l.Sync(2); e != api.OK || l.Synced() != 3 || stepsLeft(d) != 0 {
			t.Errorf("Sync(2) = %d, Synced = %d", e, l.Synced())
		}
	}
	d.Mend(nil)
	if l := opened(t, d, "a", 2); l.Next() != 3 {
		t.Errorf("Next = %d", l.Next())
	}
}

// Promise 15.2: Drop removes the files whose entries are all ahead of a number, but never the last one; the term stays, also for a log that is opened again.
func TestDrop(t *testing.T) {
	for n, want := range map[int]int{math.MinInt: 0, -1: 0, 0: 0, 1: 0, 2: 2, 3: 2, 4: 4, 5: 4, 6: 4, 100: 4, math.MaxInt: 4} {
		d := disk.New()
		l := opened(t, d, "a", 2)
		did(t, l, claims(2), appends(2, "x"), claims(5), appends(5, "y"), appends(5, "z"))
		before := all(t, l)
		for _, term := range []int{2, 6, 0} {
			if e := l.Drop(term, n); e == api.OK || l.Base() != 0 {
				t.Errorf("Drop(%d, %d) = %d, Base = %d", term, n, e, l.Base())
			}
		}
		if e := l.Drop(5, n); e != api.OK {
			t.Errorf("Drop(5, %d) = %d", n, e)
		}
		synced := map[bool]int{true: 5, false: 4}[want > 0]
		if numbers(l) != [4]int{5, want, 5, synced} || !slices.Equal(all(t, l), before[want:]) {
			t.Errorf("Drop(5, %d): Term, Base, Next and Synced are %v", n, numbers(l))
		}
		// At 4 the first entry is a record, without the claim of its term.
		l = opened(t, d, "a", 2)
		if numbers(l) != [4]int{5, want, 5, 5} || !slices.Equal(all(t, l), before[want:]) {
			t.Errorf("opened after Drop(5, %d): Term, Base, Next and Synced are %v", n, numbers(l))
		}
		did(t, l, appends(5, "u"))
		if n, e := l.Claim(5); n != 0 || e != api.ErrTerm {
			t.Errorf("Claim(5) = %d, %d", n, e)
		}
	}
}

// Promises 15.2 and 15.3: where a power failure has left a last file without entries, Drop may leave none at all; the terms of what is written go on from the last one nevertheless.
func TestDropAll(t *testing.T) {
	for keep := 6; keep < 9; keep++ {
		d := disk.New()
		l := opened(t, d, "a", 1)
		did(t, l, claims(3), appends(3, "x"))
		d.Mend([]int{0, keep})
		l = opened(t, d, "a", 1)
		if numbers(l) != [4]int{3, 0, 1, 1} || len(d.Names()) != 2 {
			t.Fatalf("Term, Base, Next and Synced are %v; the files are %q", numbers(l), d.Names())
		}
		did(t, l, drops(3, 1))
		if l.Base() != 1 || l.Next() != 1 {
			t.Errorf("Base = %d, Next = %d", l.Base(), l.Next())
		}
		if x, e := l.Get(0); x != (Entry{}) || e != api.ErrRange {
			t.Errorf("Get(0) = %v, %d", x, e)
		}
		for _, term := range []int{1, 2, 3} {
			if n, e := l.Claim(term); n != 0 || e != api.ErrTerm {
				t.Errorf("Claim(%d) = %d, %d", term, n, e)
			}
		}
		if n, e := l.Append(2, "y"); n != 0 || e != api.ErrTerm {
			t.Errorf("Append(2) = %d, %d", n, e)
		}
		did(t, l, appends(3, "y"), claims(4))
		if want := []Entry{{3, false, "y"}, {4, true, ""}}; !slices.Equal(all(t, l), want) {
			t.Errorf("the entries are %v", all(t, l))
		}
	}
}

// Promise 15.2: Get of the numbers at the edges and far beyond them, of claims and of records, with the power on or off.
func TestGet(t *testing.T) {
	d := disk.New()
	l := opened(t, d, "a", 2)
	wrong := func(numbers ...int) {
		t.Helper()
		for _, n := range append(numbers, math.MinInt, math.MaxInt, -1) {
			if x, e := l.Get(n); x != (Entry{}) || e != api.ErrRange {
				t.Errorf("Get(%d) = %v, %d", n, x, e)
			}
		}
	}
	wrong(0, 1)
	did(t, l, claims(7), appends(7, "p"), claims(9), appends(9, ""), appends(9, "q"))
	wrong(5, 6)
	did(t, l, drops(9, 3))
	happens(d, powerFails())
	wrong(0, 1, 5, 6)
	for i, want := range []Entry{{9, true, ""}, {9, false, ""}, {9, false, "q"}} {
		if x, e := l.Get(i + 2); x != want || e != api.OK {
			t.Errorf("Get(%d) = %v, %d; want %v", i+2, x, e, want)
		}
	}
	if numbers(l) != [4]int{9, 2, 5, 5} {
		t.Errorf("Term, Base, Next and Synced are %v", numbers(l))
	}
}

// Promises 15.1 and 15.2: logs with several names on one disk know nothing of each other.
func TestSeveralLogs(t *testing.T) {
	d := disk.New()
	a, b := opened(t, d, "a", 2), opened(t, d, "ab", 1)
	did(t, a, claims(3), appends(3, "x"))
	did(t, b, claims(2), appends(2, "y"), appends(2, "z"))
	if a.Term() != 3 || b.Term() != 2 || a.Next() != 2 || b.Next() != 3 {
		t.Errorf("the terms are %d and %d", a.Term(), b.Term())
	}
	if e := b.Drop(2, 2); e != api.OK || b.Base() != 2 || a.Base() != 0 {
		t.Errorf("Drop = %d, Base = %d and %d", e, a.Base(), b.Base())
	}
	a, b = opened(t, d, "a", 2), opened(t, d, "ab", 1)
	if numbers(a) != [4]int{3, 0, 2, 2} || numbers(b) != [4]int{2, 2, 3, 3} {
		t.Errorf("Term, Base, Next and Synced are %v and %v", numbers(a), numbers(b))
	}
}

// sequences goes through all sequences of so many of the things.
func sequences[T any](things []T, length int, visit func([]T)) {
	l := make([]T, length)
	var fill func(int)
	fill = func(i int) {
		if i == length {
			visit(l)
			return
		}
		for _, x := range things {
			l[i] = x
			fill(i + 1)
		}
	}
	fill(0)
}

// Promises 15.1 and 15.2: all short sequences of calls, held against the definitions.
func TestAllShort(t *testing.T) {
	calls := []call{claims(1), claims(2), appends(1, "x"), appends(2, "yz"), syncs(1), syncs(2), drops(1, 1), drops(2, 9),
		arms(1), powerFails(), crashes(1, 8, 8), opens(2)}
	for length := range 5 {
		sequences(calls, length, func(l []call) {
			newPair(t, disk.New(), "a", 1).do(l...).same()
			newPair(t, disk.New(), "a", 2).do(l...).same()
		})
	}
}

// anyCall is a call of any kind, most of which are not refused.
func anyCall(r *rand.Rand, term, next int) call {
	if r.Intn(6) == 0 {
		term += r.Intn(5) - 2
	}
	switch r.Intn(24) {
	case 0:
		return arms(r.Intn(12) - 2)
	case 1:
		return crashes(1+r.Intn(4), r.Perm(40)[:r.Intn(9)]...)
	case 2:
		return opens(1 + r.Intn(4))
	case 3:
		return powerFails()
	case 4, 5, 6:
		return syncs(term)
	case 7, 8:
		return drops(term, next-r.Intn(12)+2)
	case 9, 10, 11, 12:
		return claims(term + r.Intn(4))
	case 13:
		return appends(term, filled(3990+r.Intn(20)))
	}
	return appends(term, filled(r.Intn(40)))
}

// Promises 15.1 and 15.2: long sequences of calls on one log, held against the definitions.
func TestLong(t *testing.T) {
	for seed := range int64(200) {
		r := rand.New(rand.NewSource(seed))
		p := newPair(t, disk.New(), "log", 1+r.Intn(4))
		for range 150 {
			p.do(anyCall(r, p.m.term, p.m.w.Next())).same()
			if p.d.Down() && r.Intn(3) > 0 {
				p.do(crashes(1+r.Intn(4), r.Perm(40)[:r.Intn(9)]...)).same()
			}
		}
	}
}

// history is what was written to a log, number by number, what of it must still be there, and what may not.
type history struct {
	entries []Entry
	sure    int
	dropped int
}

// lastTerm is the greatest term that was written.
func (h *history) lastTerm() int {
	if len(h.entries) == 0 {
		return 0
	}
	return h.entries[len(h.entries)-1].Term
}

// write writes down an entry, whose term must go on from those before it.
func (h *history) write(t *testing.T, n int, x Entry) {
	t.Helper()
	if n != len(h.entries) || x.Term < h.lastTerm() || x.Claim && x.Term == h.lastTerm() {
		t.Fatalf("%v is written as number %d, behind %d entries, the last one of the term %d", x, n, len(h.entries), h.lastTerm())
	}
	h.entries = append(h.entries, x)
}

// follow makes a call and writes down what it did.
func (h *history) follow(t *testing.T, l *Log, c call) {
	t.Helper()
	n, e := c.make(l)
	switch c.kind {
	case doClaim:
		if e == api.OK {
			h.write(t, n, Entry{c.term, true, ""})
			h.sure = n + 1
		} else if l.Next() > len(h.entries) {
			// The claim counts, though it is not known to last.
			h.write(t, l.Next()-1, Entry{c.term, true, ""})
		}
	case doAppend:
		if e == api.OK {
			h.write(t, n, Entry{c.term, false, c.s})
		}
	case doSync:
		if e == api.OK && l.Synced() != len(h.entries) {
			t.Fatalf("Synced = %d; want %d", l.Synced(), len(h.entries))
		}
	case doDrop:
		h.dropped = max(h.dropped, c.n)
	}
	if l.Next() != len(h.entries) || l.Term() != h.lastTerm() {
		t.Fatalf("after %v: Next = %d, Term = %d; want %d, %d", c, l.Next(), l.Term(), len(h.entries), h.lastTerm())
	}
	h.sure = max(h.sure, l.Synced())
}

// survives holds a log that was opened anew against its history: a beginning of it, with all that was known to last.
func (h *history) survives(t *testing.T, l *Log) {
	t.Helper()
	if l.Next() < h.sure || l.Next() > len(h.entries) || l.Base() > h.dropped || l.Synced() != l.Next() {
		t.Fatalf("%d entries were written, %d last, and %d may be dropped; Term, Base, Next and Synced are %v", len(h.entries), h.sure, h.dropped, numbers(l))
	}
	h.entries = h.entries[:l.Next()]
	h.sure = l.Next()
	if got := all(t, l); !slices.Equal(got, h.entries[l.Base():]) {
		t.Fatalf("the entries are %v; want %v", got, h.entries[l.Base():])
	}
	if l.Base() < l.Next() && l.Term() != h.lastTerm() {
		t.Fatalf("Term = %d; want %d", l.Term(), h.lastTerm())
	}
}

// Promise 15.3: wherever the power fails, and whatever survives of what does not last, the log that is opened again has a beginning of what was written, with all that lasted; and its terms go on from there.
func TestSurvives(t *testing.T) {
	calls := func(term int) []call {
		return []call{claims(term), appends(term, "a"), appends(term, "bc"), syncs(term), appends(term, ""), claims(term + 2), appends(term, "def"),
			appends(term+2, "g"), drops(term+2, 3), claims(term + 1), appends(term+2, "hi"), claims(term + 3), appends(term+3, "j"), drops(term+3, 7), appends(term+3, "k")}
	}
	for per := 1; per <= 3; per++ {
		for n := range 30 {
			for keep := range 24 {
				d, h := disk.New(), &history{}
				l := opened(t, d, "a", per)
				d.Arm(n)
				for _, c := range calls(1) {
					h.follow(t, l, c)
				}
				d.Mend([]int{keep, keep, keep, keep, keep, keep, keep, keep})
				l = opened(t, d, "a", per)
				h.survives(t, l)
				for _, c := range calls(l.Term() + 1) {
					h.follow(t, l, c)
				}
				d.Mend(nil)
				h.survives(t, opened(t, d, "a", per))
			}
		}
	}
}

// Promise 15.3: the same for many power failures, one after another, also while the log is opened.
func TestSurvivesMany(t *testing.T) {
	for seed := range int64(200) {
		r := rand.New(rand.NewSource(seed))
		d, h := disk.New(), &history{}
		l := opened(t, d, "log", 1+r.Intn(5))
		for range 40 {
			// A claim first, as a new writer makes it.
			h.follow(t, l, claims(l.Term()+1))
			d.Arm(r.Intn(25))
			for !d.Down() {
				c := anyCall(r, l.Term(), l.Next())
				// Short ones, so that the disk is never full.
				c.s = c.s[:len(c.s)%30]
				if c.kind < doArm {
					h.follow(t, l, c)
				} else {
					h.follow(t, l, appends(l.Term(), strconv.Itoa(r.Intn(1000))))
				}
			}
			l = reopened(t, d, r)
			h.survives(t, l)
		}
	}
}

// reopened is the log that is opened again on a disk without power, which may fail again meanwhile.
func reopened(t *testing.T, d *disk.Disk, r *rand.Rand) *Log {
	t.Helper()
	for {
		d.Mend([]int{r.Intn(40), r.Intn(40), r.Intn(40), r.Intn(40)})
		if r.Intn(3) == 0 {
			d.Arm(r.Intn(3))
		}
		l, e := Open(d, "log", 1+r.Intn(5))
		if e == api.OK {
			d.Arm(-1)
			return l
		}
		if e != api.ErrDown {
			t.Fatalf("Open = %d", e)
		}
	}
}

// Promise 15.3: of several who hold terms, only the one of the newest writes, in whatever order they try.
func TestOneWriter(t *testing.T) {
	for seed := range int64(300) {
		r := rand.New(rand.NewSource(seed))
		d, h := disk.New(), &history{}
		l := opened(t, d, "a", 1+r.Intn(4))
		// The terms that each of three holds.
		held := [3]int{}
		for range 100 {
			who := r.Intn(3)
			if r.Intn(10) == 0 {
				term := l.Term() + r.Intn(4)
				before := l.Term()
				n, e := l.Claim(term)
				if (e == api.OK) != (term > before) {
					t.Fatalf("at %d: Claim(%d) = %d, %d", before, term, n, e)
				}
				if e == api.OK {
					held[who] = term
					h.write(t, n, Entry{term, true, ""})
				}
				continue
			}
			s := strconv.Itoa(who)
			n, e := l.Append(held[who], s)
			if want := may(l.Term(), held[who]); e != want {
				t.Fatalf("at %d: Append(%d) = %d, %d; want %d", l.Term(), held[who], n, e, want)
			}
			if e == api.OK {
				h.write(t, n, Entry{held[who], false, s})
			}
			if r.Intn(20) == 0 {
				l = opened(t, d, "a", 1+r.Intn(4))
			}
		}
		if !slices.Equal(all(t, l), h.entries) {
			t.Fatalf("the entries are %v; want %v", all(t, l), h.entries)
		}
	}
}
