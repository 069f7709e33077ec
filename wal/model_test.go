package wal

import (
	"encoding/binary"
	"fmt"
	"hash/crc32"
	"slices"
	"strconv"
	"strings"
	"testing"

	"watershed/api"
	"watershed/disk"
)

// framed is a text's frame, by the library's encodings.
func framed(s string) string {
	b := binary.AppendUvarint(nil, uint64(len(s)))
	b = binary.LittleEndian.AppendUint32(b, crc32.Checksum([]byte(s), crc32.MakeTable(crc32.Castagnoli)))
	return string(b) + s
}

// headed is the frame of a header.
func headed(n int) string { return framed(string(binary.AppendUvarint(nil, uint64(n)))) }

// fileOf is a whole file: the number in its header, and its records.
func fileOf(head int, records ...string) string {
	s := headed(head)
	for _, r := range records {
		s += framed(r)
	}
	return s
}

// modelFile is a file of a log as the chapter defines it.
type modelFile struct {
	k       int
	head    int
	records []string
	torn    bool
}

// after is the number after that of the file's last record.
func (f modelFile) after() int { return f.head + len(f.records) }

// model is a log as the chapter defines it, on a disk of its own.
type model struct {
	d      *disk.Disk
	name   string
	per    int
	files  []modelFile
	sure   int
	failed bool
}

func fileName(name string, k int) string { return name + strconv.Itoa(k) }

// split is the texts of the intact frames of a file, and what is torn behind them.
func split(s string) ([]string, string) {
	var l []string
	for {
		n, used := binary.Uvarint([]byte(s))
		if used <= 0 || n > 4096 || len(s) < used+4+int(n) {
			return l, s
		}
		text := s[used+4 : used+4+int(n)]
		if !strings.HasPrefix(s, framed(text)) {
			return l, s
		}
		l = append(l, text)
		s = s[used+4+int(n):]
	}
}

// header is the number that a file's first frame says; -1: there is none.
func header(l []string) int {
	if len(l) == 0 {
		return -1
	}
	n, _ := binary.Uvarint([]byte(l[0]))
	if string(binary.AppendUvarint(nil, n)) != l[0] || n > 1<<62 {
		return -1
	}
	return int(n)
}

// find is the files of the log, and the numbers of those that are ignored, in order.
func find(d *disk.Disk, name string) ([]modelFile, []int) {
	var files []modelFile
	var ignored []int
	for k := 1; k <= 999; k++ {
		s, e := d.Read(fileName(name, k))
		if e != api.OK {
			continue
		}
		l, rest := split(s)
		head := header(l)
		fits := head >= 0 && len(ignored) == 0
		if len(files) == 0 {
			fits = fits && head <= 1<<40
		} else {
			last := files[len(files)-1]
			fits = fits && k == last.k+1 && head == last.after()
		}
		if fits {
			files = append(files, modelFile{k, head, slices.Clone(l[1:]), rest != ""})
		} else {
			ignored = append(ignored, k)
		}
	}
	return files, ignored
}

// openModel opens a log as the chapter tells it, step by step.
func openModel(d *disk.Disk, name string, per int) (*model, api.Errno) {
	if d.Down() {
		return nil, api.ErrDown
	}
	files, ignored := find(d, name)
	for i := len(ignored) - 1; i >= 0; i-- {
		if e := d.Remove(fileName(name, ignored[i])); e != api.OK {
			return nil, e
		}
	}
	m := &model{d: d, name: name, per: per, files: files}
	if e := m.sync(); e != api.OK {
		return nil, e
	}
	return m, api.OK
}

func (m *model) base() int {
	if len(m.files) == 0 {
		return 0
	}
	return m.files[0].head
}

func (m *model) next() int {
	if len(m.files) == 0 {
		return 0
	}
	return m.files[len(m.files)-1].after()
}

// get is a record, looked for file by file.
func (m *model) get(n int) (string, api.Errno) {
	for _, f := range m.files {
		for i, s := range f.records {
			if f.head+i == n {
				return s, api.OK
			}
		}
	}
	return "", api.ErrRange
}

func (m *model) sync() api.Errno {
	if m.failed || m.d.Down() {
		m.failed = true
		return api.ErrDown
	}
	if len(m.files) > 0 {
		name := fileName(m.name, m.files[len(m.files)-1].k)
		s, _ := m.d.Read(name)
		if m.d.Lasts(name) < len(s) {
			if e := m.d.Sync(name); e != api.OK {
				m.failed = m.failed || e == api.ErrDown
				return e
			}
		}
	}
	m.sure = m.next()
	return api.OK
}

func (m *model) append(s string) (int, api.Errno) {
	if m.failed {
		return 0, api.ErrDown
	}
	if len(s) > 4096 {
		return 0, api.ErrLong
	}
	n := m.next()
	f := modelFile{k: 1}
	fresh := true
	if len(m.files) > 0 {
		f = m.files[len(m.files)-1]
		fresh = f.torn || len(f.records) >= m.per
		if fresh {
			f = modelFile{k: f.k + 1, head: f.after()}
		}
	}
	if fresh && f.k > 999 {
		return 0, api.ErrFull
	}
	bytes := framed(s)
	if fresh {
		if e := m.sync(); e != api.OK {
			return 0, e
		}
		bytes = headed(n) + bytes
	}
	if e := m.d.Append(fileName(m.name, f.k), bytes); e != api.OK {
		m.failed = m.failed || e == api.ErrDown
		return 0, e
	}
	f.records = append(f.records, s)
	if fresh {
		m.files = append(m.files, f)
	} else {
		m.files[len(m.files)-1] = f
	}
	return n, api.OK
}

func (m *model) drop(n int) api.Errno {
	if m.failed {
		return api.ErrDown
	}
	for first := true; len(m.files) > 1 && m.files[0].after() <= n; first = false {
		if first {
			if e := m.sync(); e != api.OK {
				return e
			}
		}
		if e := m.d.Remove(fileName(m.name, m.files[0].k)); e != api.OK {
			m.failed = m.failed || e == api.ErrDown
			return e
		}
		m.files = m.files[1:]
	}
	return api.OK
}

// The kinds of calls.
const (
	doAppend = iota
	doSync
	doDrop
	doArm
	doPower
	doCrash
	doOpen
)

// call is a call of a log, or something that happens to its disk.
type call struct {
	kind int
	s    string
	n    int
	keep []int
}

// String is a call as a failed test tells it.
func (c call) String() string {
	switch c.kind {
	case doAppend:
		return fmt.Sprintf("Append(%d bytes)", len(c.s))
	case doSync:
		return "Sync"
	case doDrop:
		return fmt.Sprintf("Drop(%d)", c.n)
	case doArm:
		return fmt.Sprintf("Arm(%d)", c.n)
	case doPower:
		return "the power fails"
	case doCrash:
		return fmt.Sprintf("Mend(%v) and Open with %d", c.keep, c.n)
	}
	return fmt.Sprintf("Open with %d", c.n)
}

func appends(s string) call { return call{kind: doAppend, s: s} }

func syncs() call { return call{kind: doSync} }

func drops(n int) call { return call{kind: doDrop, n: n} }

func arms(n int) call { return call{kind: doArm, n: n} }

// powerFails lets the power fail at a step that is not the log's.
func powerFails() call { return call{kind: doPower} }

// crashes mends the disk, with or without a power failure ahead, and opens the log anew.
func crashes(per int, keep ...int) call { return call{kind: doCrash, n: per, keep: keep} }

// opens opens the log anew as the disk stands.
func opens(per int) call { return call{kind: doOpen, n: per} }

// pair is a log and the model of it, each on a disk of its own.
type pair struct {
	t    *testing.T
	d    *disk.Disk
	md   *disk.Disk
	name string
	l    *Log
	m    *model
	done []call
}

// newPair opens a log and its model on copies of a disk.
func newPair(t *testing.T, d *disk.Disk, name string, per int) *pair {
	t.Helper()
	p := &pair{t: t, d: d.Copy(), md: d.Copy(), name: name}
	p.do(opens(per))
	return p
}

// failf ends the test with the calls that were made.
func (p *pair) failf(format string, l ...any) {
	p.t.Helper()
	p.t.Fatalf("after %v: %s", p.done, fmt.Sprintf(format, l...))
}

// onLog makes a call on the log.
func (p *pair) onLog(c call) (int, api.Errno) {
	switch c.kind {
	case doAppend:
		return p.l.Append(c.s)
	case doSync:
		return 0, p.l.Sync()
	case doDrop:
		return 0, p.l.Drop(c.n)
	}
	happens(p.d, c)
	if c.kind < doCrash {
		return 0, api.OK
	}
	l, e := Open(p.d, p.name, c.n)
	if (l == nil) != (e != api.OK) {
		p.failf("Open = %v, %d", l, e)
	}
	if l != nil {
		p.l = l
	}
	return 0, e
}

// onModel makes a call on the model.
func (p *pair) onModel(c call) (int, api.Errno) {
	switch c.kind {
	case doAppend:
		return p.m.append(c.s)
	case doSync:
		return 0, p.m.sync()
	case doDrop:
		return 0, p.m.drop(c.n)
	}
	happens(p.md, c)
	if c.kind < doCrash {
		return 0, api.OK
	}
	m, e := openModel(p.md, p.name, c.n)
	if m != nil {
		p.m = m
	}
	return 0, e
}

// happens is what a call means for a disk alone.
func happens(d *disk.Disk, c call) {
	switch c.kind {
	case doArm:
		d.Arm(c.n)
	case doPower:
		d.Arm(0)
		d.Append("zz", "")
	case doCrash:
		d.Mend(c.keep)
	}
}

// do makes calls on both, and holds what they answer against each other.
func (p *pair) do(calls ...call) *pair {
	p.t.Helper()
	for _, c := range calls {
		p.done = append(p.done, c)
		n, e := p.onLog(c)
		wantN, wantE := p.onModel(c)
		if n != wantN || e != wantE {
			p.failf("%d, error %d; want %d, error %d", n, e, wantN, wantE)
		}
	}
	return p
}

// same holds all that the log and its disk tell against the model.
func (p *pair) same() *pair {
	p.t.Helper()
	p.sameDisk()
	if p.l == nil {
		return p
	}
	got := [4]int{p.l.Base(), p.l.Next(), p.l.Synced(), p.l.Files()}
	want := [4]int{p.m.base(), p.m.next(), p.m.sure, len(p.m.files)}
	if got != want {
		p.failf("Base, Next, Synced and Files are %v; want %v", got, want)
	}
	for n := want[0] - 2; n <= want[1]+2; n++ {
		s, e := p.l.Get(n)
		if wantS, wantE := p.m.get(n); s != wantS || e != wantE {
			p.failf("Get(%d) = %q, %d; want %q, %d", n, s, e, wantS, wantE)
		}
	}
	return p
}

// sameDisk holds the disks against each other, with the steps that are left.
func (p *pair) sameDisk() {
	p.t.Helper()
	names := p.md.Names()
	if got := p.d.Names(); !slices.Equal(got, names) || p.d.Down() != p.md.Down() {
		p.failf("the files are %q, the power is off: %v; want %q, %v", got, p.d.Down(), names, p.md.Down())
	}
	for _, name := range names {
		got, e := p.d.Read(name)
		want, wantE := p.md.Read(name)
		if got != want || e != wantE || p.d.Lasts(name) != p.md.Lasts(name) {
			p.failf("file %s: %q, %d durable, error %d; want %q, %d, error %d", name, got, p.d.Lasts(name), e, want, p.md.Lasts(name), wantE)
		}
	}
	if got, want := stepsLeft(p.d), stepsLeft(p.md); got != want {
		p.failf("%d steps are left; want %d", got, want)
	}
}

// stepsLeft is how many steps a disk lets succeed, at most 30.
func stepsLeft(d *disk.Disk) int {
	c := d.Copy()
	n := 0
	for n < 30 && c.Append("zz", "") == api.OK {
		n++
	}
	return n
}

// diskWith is a disk with files, whose bytes all last.
func diskWith(t *testing.T, files map[string]string) *disk.Disk {
	t.Helper()
	d := disk.New()
	for name, s := range files {
		if e := d.Append(name, s); e != api.OK {
			t.Fatalf("Append(%q) = %d", name, e)
		}
		d.Sync(name)
	}
	return d
}

// opened is a log that must open.
func opened(t *testing.T, d *disk.Disk, name string, per int) *Log {
	t.Helper()
	l, e := Open(d, name, per)
	if e != api.OK || l == nil {
		t.Fatalf("Open(%q, %d) = %v, %d", name, per, l, e)
	}
	return l
}

// added appends records that must succeed.
func added(t *testing.T, l *Log, records ...string) {
	t.Helper()
	for _, s := range records {
		want := l.Next()
		if n, e := l.Append(s); n != want || e != api.OK {
			t.Fatalf("Append(%d bytes) = %d, %d; want %d", len(s), n, e, want)
		}
	}
}

// all is all records of a log.
func all(t *testing.T, l *Log) []string {
	t.Helper()
	var out []string
	for n := l.Base(); n < l.Next(); n++ {
		s, e := l.Get(n)
		if e != api.OK {
			t.Fatalf("Get(%d) = %d", n, e)
		}
		out = append(out, s)
	}
	return out
}

// numbers tells what a log says of itself.
func numbers(l *Log) [4]int { return [4]int{l.Base(), l.Next(), l.Synced(), l.Files()} }

// filled is a text of so many bytes.
func filled(n int) string { return strings.Repeat("w", n) }
