package fence

import (
	"encoding/binary"
	"fmt"
	"slices"
	"strings"
	"testing"

	"watershed/api"
	"watershed/disk"
	"watershed/wal"
)

// numbered is a number, by the library's encoding, and a text behind it.
func numbered(v uint64, s string) string { return string(binary.AppendUvarint(nil, v)) + s }

// claimOf is the bytes of a claim.
func claimOf(term int) string { return numbered(2*uint64(term)+1, "") }

// recordOf is the bytes of a record.
func recordOf(term int, s string) string { return numbered(2*uint64(term), s) }

// entryOf is the entry whose bytes are s as the chapter defines it; false: there is none.
func entryOf(s string) (Entry, bool) {
	v, n := binary.Uvarint([]byte(s))
	if n <= 0 || numbered(v, "") != s[:n] {
		return Entry{}, false
	}
	x := Entry{int(v >> 1), v&1 == 1, s[n:]}
	if v < 2 || v > 1<<31+1 || x.Claim && x.S != "" || len(x.S) > 4000 {
		return Entry{}, false
	}
	return x, true
}

// entriesOf is the entries of a log of bytes; false: one of its records is not valid.
func entriesOf(w *wal.Log) ([]Entry, bool) {
	var l []Entry
	for n := w.Base(); n < w.Next(); n++ {
		s, _ := w.Get(n)
		x, ok := entryOf(s)
		if !ok {
			return nil, false
		}
		if len(l) > 0 {
			before := l[len(l)-1].Term
			if x.Term < before || x.Claim && x.Term == before {
				return nil, false
			}
		}
		l = append(l, x)
	}
	return l, true
}

// model is a log as the chapter defines it: bytes in a log of wal, on a disk of its own.
type model struct {
	w    *wal.Log
	term int
}

// openModel opens a log as the chapter tells it.
func openModel(d *disk.Disk, name string, per int) (*model, api.Errno) {
	try := d.Copy()
	w, e := wal.Open(try, name, per)
	if e == api.OK {
		l, ok := entriesOf(w)
		if !ok {
			return nil, api.ErrField
		}
		w, _ = wal.Open(d, name, per)
		m := &model{w: w}
		if len(l) > 0 {
			m.term = l[len(l)-1].Term
		}
		return m, api.OK
	}
	wal.Open(d, name, per)
	return nil, e
}

func (m *model) claim(term int) (int, api.Errno) {
	if term < 1 || term > 1<<30 {
		return 0, api.ErrRange
	}
	if term <= m.term {
		return 0, api.ErrTerm
	}
	n, e := m.w.Append(claimOf(term))
	if e != api.OK {
		return 0, e
	}
	m.term = term
	if e := m.w.Sync(); e != api.OK {
		return 0, e
	}
	return n, api.OK
}

// may is what keeps a term from writing.
func (m *model) may(term int) api.Errno {
	if term < 1 || term > 1<<30 {
		return api.ErrRange
	}
	if term < m.term {
		return api.ErrTerm
	}
	if term > m.term {
		return api.ErrState
	}
	return api.OK
}

func (m *model) append(term int, s string) (int, api.Errno) {
	if e := m.may(term); e != api.OK {
		return 0, e
	}
	if len(s) > 4000 {
		return 0, api.ErrLong
	}
	return m.w.Append(recordOf(term, s))
}

func (m *model) sync(term int) api.Errno {
	if e := m.may(term); e != api.OK {
		return e
	}
	return m.w.Sync()
}

func (m *model) drop(term, n int) api.Errno {
	if e := m.may(term); e != api.OK {
		return e
	}
	return m.w.Drop(n)
}

// The kinds of calls.
const (
	doClaim = iota
	doAppend
	doSync
	doDrop
	doArm
	doPower
	doCrash
	doOpen
)

// call is a call of a log, or something that happens to its disk.
type call struct {
	kind int
	term int
	s    string
	n    int
	keep []int
}

// String is a call as a failed test tells it.
func (c call) String() string {
	switch c.kind {
	case doClaim:
		return fmt.Sprintf("Claim(%d)", c.term)
	case doAppend:
		return fmt.Sprintf("Append(%d, %d bytes)", c.term, len(c.s))
	case doSync:
		return fmt.Sprintf("Sync(%d)", c.term)
	case doDrop:
		return fmt.Sprintf("Drop(%d, %d)", c.term, c.n)
	case doArm:
		return fmt.Sprintf("Arm(%d)", c.n)
	case doPower:
		return "the power fails"
	case doCrash:
		return fmt.Sprintf("Mend(%v) and Open with %d", c.keep, c.n)
	}
	return fmt.Sprintf("Open with %d", c.n)
}

func claims(term int) call { return call{kind: doClaim, term: term} }

func appends(term int, s string) call { return call{kind: doAppend, term: term, s: s} }

func syncs(term int) call { return call{kind: doSync, term: term} }

func drops(term, n int) call { return call{kind: doDrop, term: term, n: n} }

func arms(n int) call { return call{kind: doArm, n: n} }

// powerFails lets the power fail at a step that is not the log's.
func powerFails() call { return call{kind: doPower} }

// crashes mends the disk, with or without a power failure ahead, and opens the log anew.
func crashes(per int, keep ...int) call { return call{kind: doCrash, n: per, keep: keep} }

// opens opens the log anew as the disk stands.
func opens(per int) call { return call{kind: doOpen, n: per} }

// happens is what a call means for a disk alone.
func happens(d *disk.Disk, c call) {
	switch c.kind {
	case doArm:
		d.Arm(c.n)
	case doPower:
		d.Arm(0)
		d.Append("zz", "")
	case doCrash:
		d.Mend(c.keep)
	}
}

// pair is a log and the model of it, each on a disk of its own.
type pair struct {
	t    *testing.T
	d    *disk.Disk
	md   *disk.Disk
	name string
	l    *Log
	m    *model
	done []call
}

// newPair opens a log and its model on copies of a disk.
func newPair(t *testing.T, d *disk.Disk, name string, per int) *pair {
	t.Helper()
	p := &pair{t: t, d: d.Copy(), md: d.Copy(), name: name}
	return p.do(opens(per))
}

// failf ends the test with the calls that were made.
func (p *pair) failf(format string, l ...any) {
	p.t.Helper()
	p.t.Fatalf("after %v: %s", p.done, fmt.Sprintf(format, l...))
}

// make makes a call on a log.
func (c call) make(l *Log) (int, api.Errno) {
	switch c.kind {
	case doClaim:
		return l.Claim(c.term)
	case doAppend:
		return l.Append(c.term, c.s)
	case doSync:
		return 0, l.Sync(c.term)
	case doDrop:
		return 0, l.Drop(c.term, c.n)
	}
	return 0, api.OK
}

// makeOn makes a call on the model.
func (c call) makeOn(m *model) (int, api.Errno) {
	switch c.kind {
	case doClaim:
		return m.claim(c.term)
	case doAppend:
		return m.append(c.term, c.s)
	case doSync:
		return 0, m.sync(c.term)
	case doDrop:
		return 0, m.drop(c.term, c.n)
	}
	return 0, api.OK
}

// onLog makes a call on the log, or on its disk.
func (p *pair) onLog(c call) (int, api.Errno) {
	happens(p.d, c)
	if c.kind < doCrash {
		return c.make(p.l)
	}
	l, e := Open(p.d, p.name, c.n)
	if (l == nil) != (e != api.OK) {
		p.failf("Open = %v, %d", l, e)
	}
	if l != nil {
		p.l = l
	}
	return 0, e
}

// onModel makes a call on the model, or on its disk.
func (p *pair) onModel(c call) (int, api.Errno) {
	happens(p.md, c)
	if c.kind < doCrash {
		return c.makeOn(p.m)
	}
	m, e := openModel(p.md, p.name, c.n)
	if m != nil {
		p.m = m
	}
	return 0, e
}

// do makes calls on both, and holds what they answer against each other.
func (p *pair) do(calls ...call) *pair {
	p.t.Helper()
	for _, c := range calls {
		p.done = append(p.done, c)
		n, e := p.onLog(c)
		wantN, wantE := p.onModel(c)
		if n != wantN || e != wantE {
			p.failf("%d, error %d; want %d, error %d", n, e, wantN, wantE)
		}
	}
	return p
}

// same holds all that the log and its disk tell against the model.
func (p *pair) same() *pair {
	p.t.Helper()
	sameDisk(p)
	if p.l == nil {
		return p
	}
	want := [4]int{p.m.term, p.m.w.Base(), p.m.w.Next(), p.m.w.Synced()}
	if got := numbers(p.l); got != want {
		p.failf("Term, Base, Next and Synced are %v; want %v", got, want)
	}
	for n := want[1] - 2; n <= want[2]+2; n++ {
		s, wantE := p.m.w.Get(n)
		wantX, _ := entryOf(s)
		if x, e := p.l.Get(n); x != wantX || e != wantE {
			p.failf("Get(%d) = %v, %d; want %v, %d", n, x, e, wantX, wantE)
		}
	}
	return p
}

// sameDisk holds the disks against each other, with the steps that are left.
func sameDisk(p *pair) {
	p.t.Helper()
	if what := unlike(p.d, p.md); what != "" {
		p.failf("%s", what)
	}
}

// unlike is what differs between two disks, or nothing.
func unlike(d, want *disk.Disk) string {
	if got := d.Names(); !slices.Equal(got, want.Names()) || d.Down() != want.Down() {
		return fmt.Sprintf("the files are %q, the power is off: %v; want %q, %v", got, d.Down(), want.Names(), want.Down())
	}
	for _, name := range want.Names() {
		s, e := d.Read(name)
		wantS, wantE := want.Read(name)
		if s != wantS || e != wantE || d.Lasts(name) != want.Lasts(name) {
			return fmt.Sprintf("file %s: %q, %d durable, error %d; want %q, %d, error %d", name, s, d.Lasts(name), e, wantS, want.Lasts(name), wantE)
		}
	}
	if n, wantN := stepsLeft(d), stepsLeft(want); n != wantN {
		return fmt.Sprintf("%d steps are left; want %d", n, wantN)
	}
	return ""
}

// stepsLeft is how many steps a disk lets succeed, at most 30.
func stepsLeft(d *disk.Disk) int {
	c := d.Copy()
	n := 0
	for n < 30 && c.Append("zz", "") == api.OK {
		n++
	}
	return n
}

// opened is a log that must open.
func opened(t *testing.T, d *disk.Disk, name string, per int) *Log {
	t.Helper()
	l, e := Open(d, name, per)
	if e != api.OK || l == nil {
		t.Fatalf("Open(%q, %d) = %v, %d", name, per, l, e)
	}
	return l
}

// did makes calls that must succeed, and holds the numbers that Claim and Append answer.
func did(t *testing.T, l *Log, calls ...call) {
	t.Helper()
	for _, c := range calls {
		want := 0
		if c.kind == doClaim || c.kind == doAppend {
			want = l.Next()
		}
		if n, e := c.make(l); n != want || e != api.OK {
			t.Fatalf("%v = %d, %d; want %d", c, n, e, want)
		}
	}
}

// all is all entries of a log.
func all(t *testing.T, l *Log) []Entry {
	t.Helper()
	var out []Entry
	for n := l.Base(); n < l.Next(); n++ {
		x, e := l.Get(n)
		if e != api.OK {
			t.Fatalf("Get(%d) = %d", n, e)
		}
		out = append(out, x)
	}
	return out
}

// numbers tells what a log says of itself.
func numbers(l *Log) [4]int { return [4]int{l.Term(), l.Base(), l.Next(), l.Synced()} }

// rawDisk is a disk with a log a of any texts, which all last.
func rawDisk(t *testing.T, per int, records ...string) *disk.Disk {
	t.Helper()
	d := disk.New()
	w, e := wal.Open(d, "a", per)
	if e != api.OK {
		t.Fatalf("wal.Open = %d", e)
	}
	for _, s := range records {
		if _, e := w.Append(s); e != api.OK {
			t.Fatalf("wal's Append = %d", e)
		}
	}
	w.Sync()
	return d
}

// rawOf is the records of the log a as texts.
func rawOf(t *testing.T, d *disk.Disk) []string {
	t.Helper()
	w, e := wal.Open(d.Copy(), "a", 1)
	if e != api.OK {
		t.Fatalf("wal.Open = %d", e)
	}
	var l []string
	for n := w.Base(); n < w.Next(); n++ {
		s, _ := w.Get(n)
		l = append(l, s)
	}
	return l
}

// filled is a text of so many bytes.
func filled(n int) string { return strings.Repeat("w", n) }
