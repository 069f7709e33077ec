package wal

import (
	"math"
	"math/rand"
	"slices"
	"strconv"
	"strings"
	"testing"

	"watershed/api"
	"watershed/disk"
)

// Promises 14.1 to 14.3: the chapter's example.
func TestExample(t *testing.T) {
	d := disk.New()
	l := opened(t, d, "a", 1)
	if numbers(l) != [4]int{} {
		t.Errorf("a new log: Base, Next, Synced and Files are %v", numbers(l))
	}
	for want, s := range []string{"a", "b"} {
		if n, e := l.Append(s); n != want || e != api.OK {
			t.Errorf("Append(%q) = %d, %d", s, n, e)
		}
	}
	if !slices.Equal(d.Names(), []string{"a1", "a2"}) || numbers(l) != [4]int{0, 2, 1, 2} {
		t.Errorf("Names = %q; Base, Next, Synced and Files are %v", d.Names(), numbers(l))
	}
	if e := l.Drop(1); e != api.OK {
		t.Errorf("Drop(1) = %d", e)
	}
	if !slices.Equal(d.Names(), []string{"a2"}) || numbers(l) != [4]int{1, 2, 2, 1} {
		t.Errorf("after Drop(1): Names = %q; Base, Next, Synced and Files are %v", d.Names(), numbers(l))
	}
	if s, e := l.Get(1); s != "b" || e != api.OK {
		t.Errorf("Get(1) = %q, %d", s, e)
	}
	if s, e := l.Get(0); s != "" || e != api.ErrRange {
		t.Errorf("Get(0) = %q, %d", s, e)
	}
}

// Promise 14.2: the bytes of the files, written out.
func TestBytes(t *testing.T) {
	d := disk.New()
	l := opened(t, d, "a", 2)
	added(t, l, "123456789", "", "x")
	// CRC-32C of 123456789 is E3069283, of nothing 0, of the byte 0 527D5351, of the byte 2 and of x as the library has them.
	want := "\x01\x51\x53\x7d\x52\x00" + "\x09\x83\x92\x06\xe3123456789" + "\x00\x00\x00\x00\x00"
	if s, e := d.Read("a1"); s != want || e != api.OK {
		t.Errorf("a1 has %x, %d; want %x", s, e, want)
	}
	if s, e := d.Read("a2"); s != fileOf(2, "x") || e != api.OK {
		t.Errorf("a2 has %x, %d", s, e)
	}
}

// Promise 14.1: without power Open is ErrDown, whatever else is wrong; then comes ErrField, then ErrRange.
func TestOpenErrors(t *testing.T) {
	names := []string{"", "A", "aB", "a-b", "1a", "ab ", "a1", "a9", "a0", "abcdefg1", "abcdefgh1", "abcdefghi", "abcdefghijkl", "abcdefghijklm", "ä", "a\n", strings.Repeat("a", 100000)}
	pers := []int{0, -1, 65, 66, 1000, math.MinInt, math.MaxInt}
	on, off := disk.New(), disk.New()
	happens(off, powerFails())
	for _, name := range append(names, "a", "abcdefgh", "a1b", "a1b2c3d") {
		for _, per := range append(pers, 1, 2, 63, 64) {
			if l, e := Open(off, name, per); l != nil || e != api.ErrDown {
				t.Errorf("Open(%q, %d) without power = %v, %d", name, per, l, e)
			}
			want := api.OK
			if slices.Contains(pers, per) {
				want = api.ErrRange
			}
			if slices.Contains(names, name) {
				want = api.ErrField
			}
			if l, e := Open(on, name, per); e != want || (l == nil) != (e != api.OK) {
				t.Errorf("Open(%q, %d) = %v, %d; want %d", name, per, l, e, want)
			}
		}
	}
	if len(on.Names()) != 0 {
		t.Errorf("Open made the files %q", on.Names())
	}
}

// Promise 14.1: what is refused removes nothing.
func TestOpenRefusedChangesNothing(t *testing.T) {
	d := diskWith(t, map[string]string{"a1": "torn", "a2": "torn", "a11": "torn"})
	d.Arm(0)
	for _, per := range []int{0, 65} {
		if _, e := Open(d, "a", per); e != api.ErrRange {
			t.Errorf("Open = %d", e)
		}
	}
	if _, e := Open(d, "a1", 1); e != api.ErrField {
		t.Errorf("Open = %d", e)
	}
	if d.Down() || len(d.Names()) != 3 {
		t.Errorf("Down = %v, Names = %q", d.Down(), d.Names())
	}
}

// Promise 14.1: each number of records in a file, with the edges, and files that begin anew there.
func TestPer(t *testing.T) {
	for _, per := range []int{1, 2, 3, 7, 63, 64} {
		p := newPair(t, disk.New(), "log", per)
		for i := range 200 {
			p.do(appends(strconv.Itoa(i)))
		}
		p.same()
		if want := (200 + per - 1) / per; p.l.Files() != want {
			t.Errorf("%d records in each file: Files = %d; want %d", per, p.l.Files(), want)
		}
		p.do(crashes(per)).same()
	}
}

// Promise 14.1: a log that is opened with another number of records in each file goes on in the last file if it has fewer, and in the next one otherwise.
func TestPerChanges(t *testing.T) {
	for first := 1; first <= 5; first++ {
		for records := range 8 {
			for second := 1; second <= 6; second++ {
				p := newPair(t, disk.New(), "a", first)
				for range records {
					p.do(appends("x"))
				}
				p.do(opens(second)).same()
				for range 4 {
					p.do(appends("yz")).same()
				}
				p.do(drops(records), crashes(first), appends("u"), appends("v")).same()
			}
		}
	}
}

// Promise 14.1: a file may have more records than any log writes to it.
func TestLongFile(t *testing.T) {
	var records []string
	for i := range 300 {
		records = append(records, strconv.Itoa(i))
	}
	d := diskWith(t, map[string]string{"a7": fileOf(1000, records...)})
	for _, per := range []int{1, 64} {
		l := opened(t, d.Copy(), "a", per)
		if numbers(l) != [4]int{1000, 1300, 1300, 1} || !slices.Equal(all(t, l), records) {
			t.Errorf("Base, Next, Synced and Files are %v", numbers(l))
		}
		newPair(t, d, "a", per).same().do(appends("x"), drops(1300), appends("y")).same()
	}
}

// Promise 14.1: the files of a log are those with its name and a number from 1 to 999 behind it; no other one is read or removed.
func TestOtherFiles(t *testing.T) {
	files := map[string]string{}
	others := []string{"a", "a0", "a00", "a01", "a001", "a1000", "a1001", "a9999", "a10000", "aa1", "ab1", "a1b", "a1b1", "b1", "b", "ba1", "z999"}
	for _, name := range others {
		files[name] = fileOf(0, name)
	}
	d := diskWith(t, files)
	p := newPair(t, d, "a", 1).same()
	if p.l.Files() != 0 {
		t.Errorf("Files = %d", p.l.Files())
	}
	p.do(appends("x"), appends("y"), drops(1), crashes(1), appends("z")).same()
	for _, name := range others {
		if s, e := p.d.Read(name); s != files[name] || e != api.OK {
			t.Errorf("Read(%q) = %q, %d", name, s, e)
		}
	}
	// What is no log is removed under these names, and under these alone.
	for _, name := range append(others, "a1", "a2", "a9", "a10", "a99", "a100", "a998", "a999") {
		d := diskWith(t, map[string]string{name: "torn"})
		opened(t, d, "a", 1)
		if stays := len(d.Names()) == 1; stays != slices.Contains(others, name) {
			t.Errorf("%q is there: %v", name, stays)
		}
	}
}

// Promises 14.1 to 14.3: logs with several names on one disk know nothing of each other.
func TestSeveralLogs(t *testing.T) {
	d := disk.New()
	names := []string{"a", "ab", "a1b", "b", "abcdefgh"}
	logs := map[string]*Log{}
	for _, name := range names {
		logs[name] = opened(t, d, name, 2)
	}
	for i := range 7 {
		for _, name := range names {
			added(t, logs[name], name+strconv.Itoa(i))
		}
	}
	if e := logs["ab"].Drop(4); e != api.OK {
		t.Errorf("Drop = %d", e)
	}
	for range 2 {
		for _, name := range names {
			l := logs[name]
			base := map[bool]int{true: 4}[name == "ab"]
			if l.Base() != base || l.Next() != 7 {
				t.Errorf("%s: Base = %d, Next = %d", name, l.Base(), l.Next())
			}
			for i := base; i < 7; i++ {
				if s, e := l.Get(i); s != name+strconv.Itoa(i) || e != api.OK {
					t.Errorf("%s: Get(%d) = %q, %d", name, i, s, e)
				}
			}
			logs[name] = opened(t, d, name, 2)
		}
	}
}

// long is a frame of 4097 bytes, which is right in everything else.
func long() string { return framed(filled(4097)) }

// tornEnds is what no intact frame begins with.
func tornEnds() map[string]string {
	l := map[string]string{
		"one byte":             "\x00",
		"a length alone":       "\x03",
		"an endless length":    strings.Repeat("\x80", 20),
		"a length of 0 in two": "\x80\x00\x00\x00\x00\x00",
		"a length of 1 in two": "\x81\x00" + framed("x")[1:],
		"a length cut off":     "\x80",
		"4097 bytes":           long(),
		"a huge length":        "\xff\xff\xff\xff\xff\xff\xff\xff\xff\x01" + "abcd",
		"a length past 64 bit": "\xff\xff\xff\xff\xff\xff\xff\xff\xff\x02" + "abcd",
		"zeros":                "\x02\x00\x00\x00\x00\x00\x00",
	}
	whole := framed("abc")
	for i := 1; i < len(whole); i++ {
		l["cut at "+strconv.Itoa(i)] = whole[:i]
	}
	for i := range len(whole) {
		l["another byte at "+strconv.Itoa(i)] = whole[:i] + string([]byte{whole[i] ^ 1}) + whole[i+1:]
	}
	return l
}

// Promise 14.1: the intact frames of a file end where one is torn, whatever stands behind it; no more records are written to that file.
func TestTornEnds(t *testing.T) {
	for what, end := range tornEnds() {
		for _, behind := range []string{"", "x", framed("behind"), fileOf(2, "behind")} {
			d := diskWith(t, map[string]string{"a3": fileOf(0, "p", "q") + end + behind})
			p := newPair(t, d, "a", 64).same()
			if !slices.Equal(all(t, p.l), []string{"p", "q"}) {
				t.Errorf("%s: the records are %q", what, all(t, p.l))
			}
			p.do(appends("r")).same()
			if !slices.Equal(p.d.Names(), []string{"a3", "a4"}) {
				t.Errorf("%s: the files are %q", what, p.d.Names())
			}
			p.do(appends("s"), opens(3), appends("t"), appends("u"), crashes(3), drops(4)).same()
		}
	}
}

// Promise 14.1: a header that is torn is none.
func TestTornHeaders(t *testing.T) {
	for what, end := range tornEnds() {
		d := diskWith(t, map[string]string{"a3": end, "b1": fileOf(0, "p"), "b2": end})
		p := newPair(t, d, "a", 64).same()
		if p.l.Files() != 0 || !slices.Equal(p.d.Names(), []string{"b1", "b2"}) {
			t.Errorf("%s: Files = %d, Names = %q", what, p.l.Files(), p.d.Names())
		}
		p.do(appends("r")).same()
		if !slices.Equal(p.d.Names(), []string{"a1", "b1", "b2"}) {
			t.Errorf("%s: Names = %q", what, p.d.Names())
		}
		q := newPair(t, d, "b", 1).same()
		if !slices.Equal(q.d.Names(), []string{"a3", "b1"}) {
			t.Errorf("%s: Names = %q", what, q.d.Names())
		}
		q.do(appends("q")).same()
	}
}

// Promise 14.1: frames of 4096 bytes are intact, the longest ones.
func TestLongestFrames(t *testing.T) {
	most := filled(4096)
	d := diskWith(t, map[string]string{"a1": fileOf(0, most, most) + long(), "a2": fileOf(2, most)})
	l := opened(t, d, "a", 64)
	if !slices.Equal(all(t, l), []string{most, most, most}) {
		t.Errorf("%d records", l.Next())
	}
	newPair(t, d, "a", 1).same()
}

// Promise 14.1: what a header may say: any number from 0 to 2^40 in the first file, the next record's in the others, and nothing else.
func TestHeaders(t *testing.T) {
	for _, c := range []struct {
		header string
		first  int
	}{
		{framed("\x00"), 0},
		{headed(1), 1},
		{headed(127), 127},
		{headed(128), 128},
		{headed(1<<40 - 1), 1<<40 - 1},
		{headed(1 << 40), 1 << 40},
		{headed(1<<40 + 1), -1},
		{headed(1 << 41), -1},
		{headed(math.MaxInt), -1},
		{framed("\xff\xff\xff\xff\xff\xff\xff\xff\xff\x01"), -1},
		{framed("\xff\xff\xff\xff\xff\xff\xff\xff\xff\x02"), -1},
		{framed(""), -1},
		{framed("\x80"), -1},
		{framed("\x80\x00"), -1},
		{framed("\x05\x05"), -1},
		{framed("\x05 "), -1},
		{framed("record"), -1},
		{"", -1},
	} {
		d := diskWith(t, map[string]string{"a5": c.header + framed("p")})
		if c.header == "" {
			d = diskWith(t, map[string]string{"a5": ""})
		}
		p := newPair(t, d, "a", 1).same()
		want := [4]int{}
		if c.first >= 0 {
			want = [4]int{c.first, c.first + 1, c.first + 1, 1}
		}
		if numbers(p.l) != want {
			t.Errorf("header %q: Base, Next, Synced and Files are %v; want %v", c.header, numbers(p.l), want)
		}
		p.do(appends("x"), appends("y"), opens(1)).same()
	}
}

// Promise 14.1: a file belongs to the log only if its header says the number after the last record of the file before it, and if no number is missing before it; those that do not are removed, with all after them.
func TestFilesThatFollow(t *testing.T) {
	most := 1 << 40
	for _, c := range []struct {
		files map[string]string
		want  []string
		base  int
		next  int
	}{
		{map[string]string{"a1": fileOf(0, "p", "q"), "a2": fileOf(2, "r"), "a3": fileOf(3)}, []string{"a1", "a2", "a3"}, 0, 3},
		{map[string]string{"a9": fileOf(7, "p"), "a10": fileOf(8, "q"), "a11": fileOf(9, "r")}, []string{"a10", "a11", "a9"}, 7, 10},
		{map[string]string{"a99": fileOf(7, "p"), "a100": fileOf(8, "q")}, []string{"a100", "a99"}, 7, 9},
		{map[string]string{"a1": fileOf(0, "p"), "a2": fileOf(0, "q"), "a3": fileOf(1, "r")}, []string{"a1"}, 0, 1},
		{map[string]string{"a1": fileOf(0, "p"), "a2": fileOf(2, "q")}, []string{"a1"}, 0, 1},
		{map[string]string{"a1": fileOf(5, "p"), "a2": fileOf(5, "q")}, []string{"a1"}, 5, 6},
		{map[string]string{"a1": fileOf(0, "p"), "a3": fileOf(1, "q")}, []string{"a1"}, 0, 1},
		{map[string]string{"a1": fileOf(0, "p"), "a2": fileOf(1, "q"), "a4": fileOf(2, "r"), "a5": fileOf(3, "s")}, []string{"a1", "a2"}, 0, 2},
		{map[string]string{"a1": "torn", "a2": fileOf(0, "q")}, nil, 0, 0},
		{map[string]string{"a1": "", "a2": fileOf(0, "q")}, nil, 0, 0},
		{map[string]string{"a1": fileOf(most+1, "p"), "a2": fileOf(0, "q")}, nil, 0, 0},
		{map[string]string{"a1": fileOf(0, "p"), "a2": "", "a3": fileOf(1, "r")}, []string{"a1"}, 0, 1},
		{map[string]string{"a1": fileOf(0, "p"), "a2": "torn", "a3": fileOf(1, "r")}, []string{"a1"}, 0, 1},
		{map[string]string{"a1": fileOf(0, "p"), "a2": framed("\x81\x00") + framed("q")}, []string{"a1"}, 0, 1},
		{map[string]string{"a1": fileOf(0, "p"), "a2": framed("\x01\x00") + framed("q")}, []string{"a1"}, 0, 1},
		{map[string]string{"a1": fileOf(0), "a2": fileOf(0), "a3": fileOf(0, "p")}, []string{"a1", "a2", "a3"}, 0, 1},
		{map[string]string{"a1": fileOf(0, "p") + "torn", "a2": fileOf(1) + "torn", "a3": fileOf(1, "q") + "torn"}, []string{"a1", "a2", "a3"}, 0, 2},
		{map[string]string{"a1": fileOf(0, "p") + long() + framed("q"), "a2": fileOf(3, "r")}, []string{"a1"}, 0, 1},
		{map[string]string{"a1": fileOf(most, "p"), "a2": fileOf(most+1, "q")}, []string{"a1", "a2"}, most, most + 2},
		{map[string]string{"a998": fileOf(3, "p"), "a999": fileOf(4, "q"), "a1000": fileOf(5, "r")}, []string{"a1000", "a998", "a999"}, 3, 5},
	} {
		d := diskWith(t, c.files)
		p := newPair(t, d, "a", 3).same()
		if !slices.Equal(p.d.Names(), c.want) || p.l.Base() != c.base || p.l.Next() != c.next || p.l.Synced() != c.next {
			t.Errorf("%q: Names = %q; Base, Next, Synced and Files are %v", c.files, p.d.Names(), numbers(p.l))
		}
		p.do(appends("x"), appends("y"), opens(2)).same()
		// Wherever the power fails meanwhile, all is as the chapter tells it.
		for n := range 5 {
			armed := d.Copy()
			armed.Arm(n)
			newPair(t, armed, "a", 3).same().do(crashes(3), appends("x")).same()
		}
	}
}

// Promise 14.1: files that are ignored are removed one by one, the one with the greatest number first, and the last file is synced behind that.
func TestOpenSteps(t *testing.T) {
	files := map[string]string{"a9": fileOf(0, "p"), "a11": "torn", "a100": fileOf(1, "q"), "a20": "", "b1": "another log's"}
	order := []string{"a100", "a20", "a11"}
	for n := range 4 {
		d := disk.New()
		for name, s := range files {
			d.Append(name, s)
		}
		d.Arm(n)
		l, e := Open(d, "a", 1)
		if l != nil || e != api.ErrDown || !d.Down() {
			t.Errorf("Arm(%d): Open = %v, %d", n, l, e)
		}
		for i, name := range order {
			if slices.Contains(d.Names(), name) != (i >= n) {
				t.Errorf("Arm(%d): Names = %q", n, d.Names())
			}
		}
		if d.Lasts("a9") != 0 {
			t.Errorf("Arm(%d): %d bytes of a9 last", n, d.Lasts("a9"))
		}
	}
	d := disk.New()
	for name, s := range files {
		d.Append(name, s)
	}
	d.Arm(4)
	l := opened(t, d, "a", 1)
	if d.Lasts("a9") != len(files["a9"]) || d.Lasts("b1") != 0 || !slices.Equal(d.Names(), []string{"a9", "b1"}) || l.Synced() != 1 {
		t.Errorf("Lasts = %d, Names = %q, Synced = %d", d.Lasts("a9"), d.Names(), l.Synced())
	}
}

// Promise 14.1: Open takes no step if nothing is ignored and the last file lasts; it syncs the last file, also for what is torn alone, and no other one.
func TestOpenSyncs(t *testing.T) {
	for _, end := range []string{"", "torn"} {
		d := diskWith(t, map[string]string{"a1": fileOf(0, "p"), "a2": fileOf(1, "q")})
		if end != "" {
			d.Append("a2", end)
		}
		d.Append("a1", "torn")
		d.Arm(len(end) / 4)
		l := opened(t, d, "a", 1)
		if d.Down() || stepsLeft(d) != 0 || l.Synced() != 2 {
			t.Errorf("%q: Down = %v, %d steps left, Synced = %d", end, d.Down(), stepsLeft(d), l.Synced())
		}
		if want := len(fileOf(1, "q") + end); d.Lasts("a2") != want || d.Lasts("a1") != len(fileOf(0, "p")) {
			t.Errorf("%q: %d and %d bytes last", end, d.Lasts("a1"), d.Lasts("a2"))
		}
	}
	d := disk.New()
	d.Arm(0)
	opened(t, d, "a", 1)
	if d.Down() {
		t.Errorf("a log without files takes a step")
	}
}

// Promise 14.2: records of any bytes and of each length up to 4096, and none that is longer.
func TestAppendLengths(t *testing.T) {
	p := newPair(t, disk.New(), "a", 5)
	for _, n := range []int{0, 1, 127, 128, 129, 4000, 4095, 4096} {
		p.do(appends(filled(n)))
		for _, n := range []int{4097, 4098, 1 << 16, 1 << 20} {
			if k, e := p.l.Append(filled(n)); k != 0 || e != api.ErrLong {
				t.Errorf("Append(%d bytes) = %d, %d", n, k, e)
			}
			p.do(appends(filled(n)))
		}
		p.same()
	}
	var each []byte
	for b := range 256 {
		each = append(each, byte(b))
		p.do(appends(string([]byte{byte(b)})))
	}
	p.do(appends(string(each)), appends(framed("x")), appends(fileOf(0, "x")), appends("é\n\x00")).same()
	if p.l.Next() != 268 || p.l.Synced() != 265 {
		t.Errorf("Next = %d, Synced = %d", p.l.Next(), p.l.Synced())
	}
	p.do(syncs(), crashes(5)).same()
	if s, e := p.l.Get(264); s != string(each) || e != api.OK || p.l.Next() != 268 {
		t.Errorf("Get(264) = %q, %d, Next = %d", s, e, p.l.Next())
	}
}

// Promise 14.2: a new file takes a Sync of the last one, if that does not last, and one Append; any other record takes one Append.
func TestAppendSteps(t *testing.T) {
	for n := range 8 {
		p := newPair(t, disk.New(), "a", 2).do(arms(n))
		for range 7 {
			p.do(appends("x")).same()
		}
		p.do(crashes(2, 1), appends("y")).same()
		p = newPair(t, disk.New(), "a", 2).do(arms(n))
		for range 7 {
			p.do(appends("x"), syncs()).same()
		}
		p.do(crashes(2, 1), appends("y")).same()
	}
	d := disk.New()
	l := opened(t, d, "a", 1)
	d.Arm(4)
	added(t, l, "x", "y")
	if stepsLeft(d) != 1 || d.Lasts("a1") != len(fileOf(0, "x")) || d.Lasts("a2") != 0 || l.Synced() != 1 {
		t.Errorf("%d steps left, %d and %d bytes last, Synced = %d", stepsLeft(d), d.Lasts("a1"), d.Lasts("a2"), l.Synced())
	}
}

// Promise 14.2: the file with the number 999 is the last one that there may be; ErrFull changes nothing and is no failure.
func TestLastNumber(t *testing.T) {
	d := diskWith(t, map[string]string{"a998": fileOf(5, "p")})
	p := newPair(t, d, "a", 2).same()
	p.do(appends("q"), appends("r"), appends("s")).same()
	if !slices.Equal(p.d.Names(), []string{"a998", "a999"}) {
		t.Fatalf("Names = %q", p.d.Names())
	}
	p.do(arms(0))
	for range 3 {
		if n, e := p.l.Append("t"); n != 0 || e != api.ErrFull {
			t.Errorf("Append = %d, %d", n, e)
		}
		if n, e := p.l.Append(filled(4097)); n != 0 || e != api.ErrLong {
			t.Errorf("Append = %d, %d", n, e)
		}
	}
	p.same()
	// Dropping files makes no numbers free.
	p.do(arms(-1), drops(7), appends("t"), opens(2), appends("t"), opens(3), appends("t"), appends("u")).same()
	if p.l.Files() != 1 || p.l.Next() != 10 {
		t.Errorf("Files = %d, Next = %d", p.l.Files(), p.l.Next())
	}
	// A torn end makes a new file necessary as well.
	q := newPair(t, diskWith(t, map[string]string{"a999": fileOf(5) + "torn"}), "a", 64).do(appends("q")).same()
	if n, e := q.l.Append(""); n != 0 || e != api.ErrFull {
		t.Errorf("Append = %d, %d", n, e)
	}
	// It comes ahead of what the disk answers, so that the log does not learn of the power.
	q.do(powerFails(), appends("q"), appends("q")).same()
	q.do(appends(filled(4097)), syncs(), appends("q"), appends(filled(4097))).same()
	if _, e := q.l.Append("q"); e != api.ErrDown {
		t.Errorf("Append of a log that has failed = %d", e)
	}
}

// Promise 14.2: all the files that there may be, one by one.
func TestAllNumbers(t *testing.T) {
	l := opened(t, disk.New(), "a", 1)
	for i := range 999 {
		if n, e := l.Append("x"); n != i || e != api.OK {
			t.Fatalf("Append = %d, %d", n, e)
		}
	}
	if n, e := l.Append("x"); n != 0 || e != api.ErrFull || numbers(l) != [4]int{0, 999, 998, 999} {
		t.Errorf("Append = %d, %d; Base, Next, Synced and Files are %v", n, e, numbers(l))
	}
}

// Promise 14.2: ErrFull of the disk is returned, the record does not count, and the log goes on once there is space.
func TestFullDisk(t *testing.T) {
	for _, per := range []int{1, 2, 3} {
		for _, space := range []int{0, 5, 6, 12, 13, 14, 100} {
			d := disk.New()
			p := newPair(t, d, "a", per).do(appends("p"), appends("q"))
			used := len(fileOf(0, "p", "q")) + map[bool]int{true: len(headed(1))}[per == 1]
			for _, d := range []*disk.Disk{p.d, p.md} {
				if e := d.Append("b", filled(disk.Room-used-space)); e != api.OK {
					t.Fatalf("Append = %d", e)
				}
			}
			p.do(appends("r"), appends(""), appends("stu"), appends(filled(4096)), syncs(), appends("v")).same()
			for _, d := range []*disk.Disk{p.d, p.md} {
				d.Remove("b")
			}
			p.do(appends("r"), appends(filled(4096)), crashes(per)).same()
		}
	}
	d := disk.New()
	l := opened(t, d, "a", 1)
	added(t, l, "p")
	d.Append("b", filled(disk.Room-len(fileOf(0, "p"))))
	if n, e := l.Append("q"); n != 0 || e != api.ErrFull || numbers(l) != [4]int{0, 1, 1, 1} {
		t.Errorf("Append = %d, %d; Base, Next, Synced and Files are %v", n, e, numbers(l))
	}
}

// Promise 14.2: Append is ErrDown if the log has failed, then ErrLong, then ErrFull, then what the disk answers.
func TestAppendErrors(t *testing.T) {
	d := disk.New()
	l := opened(t, d, "a", 1)
	added(t, l, "x")
	happens(d, powerFails())
	// The log does not know yet.
	if n, e := l.Append(filled(4097)); n != 0 || e != api.ErrLong {
		t.Errorf("Append = %d, %d", n, e)
	}
	if n, e := l.Append("y"); n != 0 || e != api.ErrDown {
		t.Errorf("Append = %d, %d", n, e)
	}
	if n, e := l.Append(filled(4097)); n != 0 || e != api.ErrDown {
		t.Errorf("Append = %d, %d", n, e)
	}
	if numbers(l) != [4]int{0, 1, 0, 1} {
		t.Errorf("Base, Next, Synced and Files are %v", numbers(l))
	}
}

// Promise 14.2: a log in which any call was ErrDown has failed, and writes nothing any more, though the power is back; what it knows it still tells.
func TestFailed(t *testing.T) {
	calls := []call{appends("x"), syncs(), drops(100), appends(""), drops(0)}
	for i, first := range calls[:3] {
		for n := range 3 {
			p := newPair(t, disk.New(), "a", 2).do(appends("p"), appends("q"), appends("r"), syncs(), appends("s"), arms(n))
			for range n + 1 {
				p.do(first)
			}
			if !p.m.failed {
				continue
			}
			for _, d := range []*disk.Disk{p.d, p.md} {
				d.Mend([]int{100, 100, 100})
			}
			before := p.d.Copy()
			for _, c := range calls {
				p.do(c).same()
				if _, e := p.onLog(c); e != api.ErrDown {
					t.Errorf("%v after call %d failed = %d", c, i, e)
				}
			}
			p.md = before
			p.same().do(opens(2), appends("t"), syncs()).same()
		}
	}
	for n, want := range []bool{true, true, false} {
		d := disk.New()
		l := opened(t, d, "a", 1)
		added(t, l, "p", "q")
		d.Arm(n)
		l.Drop(1)
		d.Mend(nil)
		if e := l.Sync(); (e == api.ErrDown) != want {
			t.Errorf("Sync after Drop with %d steps left = %d", n, e)
		}
	}
}

// Promise 14.2: a power failure that no call of the log met is none of the log's.
func TestUnnoticed(t *testing.T) {
	p := newPair(t, disk.New(), "a", 2).do(appends("p"), syncs(), powerFails()).same()
	for _, d := range []*disk.Disk{p.d, p.md} {
		d.Mend(nil)
	}
	p.do(appends("q"), appends("r"), syncs(), drops(2)).same()
}

// Promise 14.2: Sync makes all last; it takes a step only where something does not, and is ErrDown without power also where nothing is to be synced.
func TestSync(t *testing.T) {
	d := disk.New()
	l := opened(t, d, "a", 2)
	d.Arm(0)
	if e := l.Sync(); e != api.OK || d.Down() {
		t.Errorf("Sync of a log without files = %d, Down = %v", e, d.Down())
	}
	d.Arm(-1)
	added(t, l, "x", "y", "z")
	if l.Synced() != 2 || d.Lasts("a2") != 0 {
		t.Errorf("Synced = %d, %d bytes last", l.Synced(), d.Lasts("a2"))
	}
	d.Arm(1)
	for range 3 {
		if e := l.Sync(); e != api.OK || l.Synced() != 3 || d.Lasts("a2") != len(fileOf(2, "z")) || stepsLeft(d) != 0 {
			t.Errorf("Sync = %d, Synced = %d, %d bytes last, %d steps left", e, l.Synced(), d.Lasts("a2"), stepsLeft(d))
		}
	}
	happens(d, powerFails())
	for range 2 {
		if e := l.Sync(); e != api.ErrDown || l.Synced() != 3 {
			t.Errorf("Sync without power = %d, Synced = %d", e, l.Synced())
		}
	}
	d.Mend(nil)
	if e := l.Sync(); e != api.ErrDown {
		t.Errorf("Sync of a log that has failed = %d", e)
	}
	l = opened(t, d, "a", 2)
	added(t, l, "u")
	d.Arm(0)
	if e := l.Sync(); e != api.ErrDown || l.Synced() != 3 || l.Next() != 4 {
		t.Errorf("Sync with no step left = %d, Synced = %d, Next = %d", e, l.Synced(), l.Next())
	}
	off := disk.New()
	l = opened(t, off, "a", 1)
	happens(off, powerFails())
	if e := l.Sync(); e != api.ErrDown {
		t.Errorf("Sync of a log without files and without power = %d", e)
	}
}

// Promise 14.2: a last file that somebody else has synced takes no step, and its records are known to last then.
func TestSyncedByOthers(t *testing.T) {
	d := disk.New()
	l := opened(t, d, "a", 2)
	added(t, l, "x")
	d.Sync("a1")
	d.Arm(0)
	if l.Synced() != 0 {
		t.Errorf("Synced = %d", l.Synced())
	}
	if e := l.Sync(); e != api.OK || d.Down() || l.Synced() != 1 {
		t.Errorf("Sync = %d, Down = %v, Synced = %d", e, d.Down(), l.Synced())
	}
}

// Promise 14.3: Get of the numbers at the edges and far beyond them, with the power on or off.
func TestGet(t *testing.T) {
	d := disk.New()
	l := opened(t, d, "a", 2)
	wrong := func(numbers ...int) {
		t.Helper()
		for _, n := range append(numbers, math.MinInt, math.MaxInt, -1) {
			if s, e := l.Get(n); s != "" || e != api.ErrRange {
				t.Errorf("Get(%d) = %q, %d", n, s, e)
			}
		}
	}
	wrong(0, 1)
	added(t, l, "p", "q", "", "s", "t")
	wrong(5, 6)
	l.Drop(3)
	happens(d, powerFails())
	wrong(0, 1, 5, 6)
	for i, want := range []string{"", "s", "t"} {
		if s, e := l.Get(i + 2); s != want || e != api.OK {
			t.Errorf("Get(%d) = %q, %d", i+2, s, e)
		}
	}
	if numbers(l) != [4]int{2, 5, 5, 2} {
		t.Errorf("Base, Next, Synced and Files are %v", numbers(l))
	}
}

// dropped is a log with files of 2, 0, 1, 0, 0, 3 and 1 records, from the number 10 on.
func dropped(t *testing.T) *disk.Disk {
	d := disk.New()
	for k, records := range [][]string{{"a", "b"}, {}, {"c"}, {}, {}, {"d", "e", "f"}, {"g"}} {
		head := []int{10, 12, 12, 13, 13, 13, 16}[k]
		d.Append("a"+strconv.Itoa(k+3), fileOf(head, records...)+"torn")
		d.Sync("a" + strconv.Itoa(k+3))
	}
	d.Append("a9", "n")
	return d
}

// Promise 14.3: Drop removes the files all of whose records are ahead of a number, for each number, but never the last file.
func TestDrop(t *testing.T) {
	for n, want := range map[int]int{math.MinInt: 7, -1: 7, 0: 7, 9: 7, 10: 7, 11: 7, 12: 5, 13: 2, 14: 2, 15: 2, 16: 1, 17: 1, 18: 1, 1 << 40: 1, math.MaxInt: 1} {
		p := newPair(t, dropped(t), "a", 2).same().do(drops(n)).same()
		if p.l.Files() != want || p.l.Next() != 17 {
			t.Errorf("Drop(%d): Files = %d, Next = %d; want %d files", n, p.l.Files(), p.l.Next(), want)
		}
		p.do(drops(n), appends("h"), drops(17), appends("i"), crashes(2)).same()
		for steps := range 9 {
			p := newPair(t, dropped(t), "a", 2).do(appends("h"), arms(steps), drops(n)).same()
			p.do(crashes(2, 3), drops(n), appends("i")).same()
		}
	}
	// One file, full or not, stays.
	for n := range 5 {
		p := newPair(t, disk.New(), "a", 2).do(drops(n)).same().do(appends("p"), drops(n)).same().do(appends("q"), drops(n)).same()
		if p.l.Files() != 1 || p.l.Base() != 0 {
			t.Errorf("Drop(%d): Files = %d, Base = %d", n, p.l.Files(), p.l.Base())
		}
	}
}

// Promise 14.3: where nothing is to be removed, Drop takes no step, syncs nothing, and does not meet the power that is off.
func TestDropNothing(t *testing.T) {
	d := disk.New()
	l := opened(t, d, "a", 2)
	added(t, l, "p", "q", "r")
	d.Arm(0)
	for _, off := range []bool{false, true} {
		for _, n := range []int{-1, 0, 1} {
			if e := l.Drop(n); e != api.OK || d.Down() != off || l.Synced() != 2 {
				t.Errorf("Drop(%d) = %d, Down = %v, Synced = %d", n, e, d.Down(), l.Synced())
			}
		}
		d.Append("zz", "")
	}
	if e := l.Drop(2); e != api.ErrDown {
		t.Errorf("Drop(2) without power = %d", e)
	}
	if e := l.Drop(1); e != api.ErrDown || l.Files() != 2 {
		t.Errorf("Drop(1) of a log that has failed = %d, Files = %d", e, l.Files())
	}
}

// Promise 14.3: Drop syncs first, removes the first file first, and stops where the power fails.
func TestDropSteps(t *testing.T) {
	for n, want := range [][4]int{{0, 4, 3, 4}, {0, 4, 4, 4}, {1, 4, 4, 3}, {2, 4, 4, 2}, {3, 4, 4, 1}} {
		d := disk.New()
		l := opened(t, d, "a", 1)
		added(t, l, "p", "q", "r", "s")
		d.Arm(n)
		e := l.Drop(4)
		if (e == api.OK) != (n == 4) || e != api.OK && e != api.ErrDown || numbers(l) != want || d.Down() != (n < 4) {
			t.Errorf("Arm(%d): Drop = %d; Base, Next, Synced and Files are %v; want %v", n, e, numbers(l), want)
		}
		if !slices.Equal(d.Names(), []string{"a1", "a2", "a3", "a4"}[want[0]:]) {
			t.Errorf("Arm(%d): Names = %q", n, d.Names())
		}
		if !slices.Equal(all(t, l), []string{"p", "q", "r", "s"}[want[0]:]) {
			t.Errorf("Arm(%d): the records are %q", n, all(t, l))
		}
	}
}

// sequences goes through all sequences of so many of the calls.
func sequences(calls []call, length int, visit func([]call)) {
	l := make([]call, length)
	var fill func(int)
	fill = func(i int) {
		if i == length {
			visit(l)
			return
		}
		for _, c := range calls {
			l[i] = c
			fill(i + 1)
		}
	}
	fill(0)
}

// Promises 14.1 to 14.3: all short sequences of calls, held against the definitions.
func TestAllShort(t *testing.T) {
	calls := []call{appends("x"), appends("yz"), syncs(), drops(1), drops(2), arms(0), arms(2), powerFails(),
		crashes(1), crashes(2, 9, 3), opens(1)}
	for length := range 5 {
		sequences(calls, length, func(l []call) {
			newPair(t, disk.New(), "a", 1).do(l...).same()
			newPair(t, disk.New(), "a", 2).do(l...).same()
		})
	}
}

// anyCall is a call of any kind, most of which are not refused.
func anyCall(r *rand.Rand, next int) call {
	switch r.Intn(24) {
	case 0:
		return arms(r.Intn(12) - 2)
	case 1:
		return crashes(1+r.Intn(4), r.Perm(60)[:r.Intn(9)]...)
	case 2:
		return opens(1 + r.Intn(4))
	case 3:
		return powerFails()
	case 4, 5, 6:
		return syncs()
	case 7, 8:
		return drops(next - r.Intn(12) + 2)
	case 9:
		return appends(filled(4000 + r.Intn(99)))
	}
	return appends(filled(r.Intn(40)))
}

// Promises 14.1 to 14.3: long sequences of calls on one log, held against the definitions.
func TestLong(t *testing.T) {
	for seed := range int64(300) {
		r := rand.New(rand.NewSource(seed))
		p := newPair(t, disk.New(), "log", 1+r.Intn(4))
		for range 150 {
			p.do(anyCall(r, p.m.next())).same()
			if p.m.failed && r.Intn(3) > 0 {
				p.do(crashes(1+r.Intn(4), r.Perm(60)[:r.Intn(9)]...)).same()
			}
		}
	}
}

// Promise 14.1: a log that is opened on files that were cut off, or changed in one byte, anywhere.
func TestDamaged(t *testing.T) {
	files := map[string]string{"a8": fileOf(3, "p", "qq"), "a9": fileOf(5, "", "rst"), "a10": fileOf(7, "u")}
	for name, s := range files {
		for i := range len(s) {
			for _, damaged := range []string{s[:i], s[:i] + string([]byte{s[i] ^ 1}) + s[i+1:], s[:i] + string([]byte{s[i] ^ 0x80}) + s[i+1:], s[:i] + s[i+1:], s[:i] + "\x00" + s[i:]} {
				d := diskWith(t, files)
				d.Remove(name)
				d.Append(name, damaged)
				p := newPair(t, d, "a", 3).same()
				for n, want := range []string{"p", "qq", "", "rst", "u"}[:max(p.l.Next()-3, 0)] {
					if got, e := p.l.Get(n + 3); got != want || e != api.OK {
						t.Fatalf("%s, damaged at %d: Get(%d) = %q, %d", name, i, n+3, got, e)
					}
				}
				p.do(appends("v"), appends("w"), crashes(3)).same()
			}
		}
	}
}

// history is what was written to a log, number by number, what of it must still be there, and what may be.
type history struct {
	records []string
	sure    int
	dropped int
}

// survives holds a log that was opened anew against its history: a beginning of it, with all that was synced.
func (h *history) survives(t *testing.T, l *Log) {
	t.Helper()
	if l.Next() < h.sure || l.Next() > len(h.records) || l.Base() > h.dropped || l.Synced() != l.Next() {
		t.Fatalf("%d records were written, %d were synced, and %d may be dropped; Base, Next, Synced and Files are %v", len(h.records), h.sure, h.dropped, numbers(l))
	}
	for n := l.Base(); n < l.Next(); n++ {
		if s, e := l.Get(n); s != h.records[n] || e != api.OK {
			t.Fatalf("Get(%d) = %q, %d; want %q", n, s, e, h.records[n])
		}
	}
	h.records = h.records[:l.Next()]
	h.sure = l.Next()
}

// follow makes a call and writes down what it did.
func (h *history) follow(t *testing.T, l *Log, c call) api.Errno {
	t.Helper()
	var e api.Errno
	switch c.kind {
	case doAppend:
		var n int
		if n, e = l.Append(c.s); e == api.OK {
			if n != len(h.records) {
				t.Fatalf("Append = %d; want %d", n, len(h.records))
			}
			h.records = append(h.records, c.s)
		}
	case doSync:
		if e = l.Sync(); e == api.OK && l.Synced() != len(h.records) {
			t.Fatalf("Synced = %d; want %d", l.Synced(), len(h.records))
		}
	case doDrop:
		h.dropped = max(h.dropped, c.n)
		e = l.Drop(c.n)
	}
	h.sure = max(h.sure, l.Synced())
	return e
}

// Promise 14.4: wherever the power fails, and whatever survives of what does not last, the log that is opened again has a beginning of what was written, with all that was synced.
func TestSurvives(t *testing.T) {
	calls := []call{appends("a"), appends("bc"), syncs(), appends(""), appends("def"), appends("g"), drops(2), appends("hi"), syncs(), appends("j"), drops(6), appends("k")}
	for per := 1; per <= 3; per++ {
		for n := range 25 {
			for keep := range 40 {
				d, h := disk.New(), &history{}
				l := opened(t, d, "a", per)
				d.Arm(n)
				for _, c := range calls {
					h.follow(t, l, c)
				}
				d.Mend([]int{keep, keep, keep, keep, keep, keep, keep, keep})
				l = opened(t, d, "a", per)
				h.survives(t, l)
				for _, c := range calls {
					if e := h.follow(t, l, c); e != api.OK {
						t.Fatalf("%v = %d", c, e)
					}
				}
				d.Mend(nil)
				h.survives(t, opened(t, d, "a", per))
			}
		}
	}
}

// Promise 14.4: the same for many power failures, one after another, also while the log is opened.
func TestSurvivesMany(t *testing.T) {
	for seed := range int64(400) {
		r := rand.New(rand.NewSource(seed))
		d, h := disk.New(), &history{}
		l := opened(t, d, "log", 1+r.Intn(5))
		for range 40 {
			d.Arm(r.Intn(25))
			for !d.Down() {
				c := anyCall(r, len(h.records))
				// Short ones, so that the disk is never full.
				if c.kind == doAppend {
					c.s = filled(len(c.s) % 30)
				}
				h.follow(t, l, c)
			}
			for {
				d.Mend([]int{r.Intn(60), r.Intn(60), r.Intn(60), r.Intn(60)})
				if r.Intn(3) == 0 {
					d.Arm(r.Intn(3))
				}
				var e api.Errno
				if l, e = Open(d, "log", 1+r.Intn(5)); e == api.OK {
					break
				}
				if e != api.ErrDown {
					t.Fatalf("Open = %d", e)
				}
			}
			h.survives(t, l)
		}
	}
}

// The iterator ends where its user does, and where the intact frames do.
func TestFrames(t *testing.T) {
	s := framed("p") + framed("") + framed("qr") + "torn"
	for most := 1; most < 5; most++ {
		var texts []string
		var ends []int
		for end, text := range frames(s) {
			texts, ends = append(texts, text), append(ends, end)
			if len(texts) == most {
				break
			}
		}
		n := min(most, 3)
		if !slices.Equal(texts, []string{"p", "", "qr"}[:n]) || !slices.Equal(ends, []int{6, 11, 18}[:n]) {
			t.Errorf("%d frames: %q, which end at %v", most, texts, ends)
		}
	}
}
