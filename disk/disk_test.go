package disk

import (
	"fmt"
	"math"
	"math/rand"
	"slices"
	"strings"
	"testing"

	"watershed/api"
)

// modelFile is a file as the chapter defines it.
type modelFile struct {
	text    string
	durable int
}

// model is a disk as the chapter defines it.
type model struct {
	files map[string]modelFile
	off   bool
	armed bool
	steps int
}

func newModel() *model { return &model{files: map[string]modelFile{}} }

// copy is another model with the same.
func (m *model) copy() *model {
	c := *m
	c.files = map[string]modelFile{}
	for name, f := range m.files {
		c.files[name] = f
	}
	return &c
}

// names are the names of all files, in order.
func (m *model) names() []string {
	var l []string
	for name := range m.files {
		l = append(l, name)
	}
	slices.Sort(l)
	return l
}

// The kinds of calls that change a disk.
const (
	doArm = iota
	doAppend
	doSync
	doRemove
	doMend
)

// call is a call that changes a disk.
type call struct {
	kind int
	name string
	s    string
	n    int
	keep []int
}

// String is a call as a failed test tells it.
func (c call) String() string {
	switch c.kind {
	case doArm:
		return fmt.Sprintf("Arm(%d)", c.n)
	case doAppend:
		return fmt.Sprintf("Append(%q, %d bytes)", c.name, len(c.s))
	case doSync:
		return fmt.Sprintf("Sync(%q)", c.name)
	case doRemove:
		return fmt.Sprintf("Remove(%q)", c.name)
	}
	return fmt.Sprintf("Mend(%v)", c.keep)
}

// on makes the call on a disk.
func (c call) on(d *Disk) api.Errno {
	switch c.kind {
	case doArm:
		d.Arm(c.n)
	case doAppend:
		return d.Append(c.name, c.s)
	case doSync:
		return d.Sync(c.name)
	case doRemove:
		return d.Remove(c.name)
	case doMend:
		d.Mend(c.keep)
	}
	return api.OK
}

// isName tells by its bytes whether a word is a name.
func isName(w string) bool {
	const letters, digits = "abcdefghijklmnopqrstuvwxyz", "0123456789"
	if len(w) < 1 || len(w) > 12 || !strings.Contains(letters, w[:1]) {
		return false
	}
	for i := range len(w) {
		if !strings.Contains(letters+digits, w[i:i+1]) {
			return false
		}
	}
	return true
}

// wrong is what the chapter names as a step's error, in its order, ahead of the steps that are left.
func (m *model) wrong(c call) api.Errno {
	if m.off {
		return api.ErrDown
	}
	if !isName(c.name) {
		return api.ErrField
	}
	if c.kind == doAppend {
		n := len(c.s)
		for _, f := range m.files {
			n += len(f.text)
		}
		if n > 262144 {
			return api.ErrFull
		}
		return api.OK
	}
	if _, ok := m.files[c.name]; !ok {
		return api.ErrNone
	}
	return api.OK
}

// do makes the call on a model.
func (m *model) do(c call) api.Errno {
	switch c.kind {
	case doArm:
		m.armed, m.steps = c.n >= 0, c.n
		return api.OK
	case doMend:
		m.mend(c.keep)
		return api.OK
	}
	if e := m.wrong(c); e != api.OK {
		return e
	}
	if m.armed && m.steps == 0 {
		m.off = true
		return api.ErrDown
	}
	m.steps--
	f := m.files[c.name]
	switch c.kind {
	case doAppend:
		m.files[c.name] = modelFile{f.text + c.s, f.durable}
	case doSync:
		m.files[c.name] = modelFile{f.text, len(f.text)}
	case doRemove:
		delete(m.files, c.name)
	}
	return api.OK
}

// mend is what Mend makes of a model.
func (m *model) mend(keep []int) {
	for i, name := range m.names() {
		f := m.files[name]
		other := len(f.text) - f.durable
		k := 0
		if i < len(keep) && keep[i] > 0 {
			k = keep[i] % (other + 1)
		}
		text := f.text[:f.durable+k]
		m.files[name] = modelFile{text, len(text)}
		if text == "" {
			delete(m.files, name)
		}
	}
	m.off, m.armed = false, false
}

// same holds all that a disk tells against a model, for the names of its files and for others.
func same(t *testing.T, what string, d *Disk, m *model) {
	t.Helper()
	if d.Down() != m.off {
		t.Fatalf("%s: Down = %v; want %v", what, d.Down(), m.off)
	}
	names := m.names()
	if got := d.Names(); !slices.Equal(got, names) {
		t.Fatalf("%s: Names = %q; want %q", what, got, names)
	}
	for _, name := range append(names, "a", "b", "c", "", "A") {
		f, ok := m.files[name]
		want, e := f.text, api.OK
		if m.off {
			want, e = "", api.ErrDown
		} else if !ok {
			want, e = "", api.ErrNone
		}
		if got, x := d.Read(name); got != want || x != e {
			t.Fatalf("%s: Read(%q) = %q, %d; want %q, %d", what, name, got, x, want, e)
		}
		if got := d.Lasts(name); got != f.durable {
			t.Fatalf("%s: Lasts(%q) = %d; want %d", what, name, got, f.durable)
		}
	}
}

// both makes the calls on a disk and on a model, one by one, and holds what they answer and all that the disk then tells against each other.
func both(t *testing.T, d *Disk, m *model, calls ...call) {
	t.Helper()
	for _, c := range calls {
		got, want := c.on(d), m.do(c)
		if got != want {
			t.Fatalf("%v = %d; want %d", c, got, want)
		}
		same(t, c.String(), d, m)
	}
}

func arm(n int) call { return call{kind: doArm, n: n} }

func appended(name, s string) call { return call{kind: doAppend, name: name, s: s} }

func synced(name string) call { return call{kind: doSync, name: name} }

func removed(name string) call { return call{kind: doRemove, name: name} }

func mended(keep ...int) call { return call{kind: doMend, keep: keep} }

// ok makes calls on a disk, none of which may be refused.
func ok(t *testing.T, d *Disk, calls ...call) {
	t.Helper()
	for _, c := range calls {
		if e := c.on(d); e != api.OK {
			t.Fatalf("%v = %d", c, e)
		}
	}
}

// refused makes a call on a disk, which must be refused with an error and change nothing that the disk tells.
func refused(t *testing.T, d *Disk, c call, want api.Errno) {
	t.Helper()
	before := told(d)
	if e := c.on(d); e != want {
		t.Errorf("%v = %d; want %d", c, e, want)
	}
	if after := told(d); after != before {
		t.Errorf("%v, refused: %q; want %q", c, after, before)
	}
}

// told is all that a disk tells of its files while the power is on.
func told(d *Disk) string {
	var parts []string
	for _, name := range d.Names() {
		s, e := d.Read(name)
		parts = append(parts, fmt.Sprint(name, " ", len(s), " ", s[:min(len(s), 40)], " ", int(e), " ", d.Lasts(name)))
	}
	return strings.Join(parts, ";")
}

// filled is a text of so many bytes, which are not all the same.
func filled(n int) string { return strings.Repeat("0123456789abcdef", n/16+1)[:n] }

// wrongNames are words that are no names.
func wrongNames() []string {
	l := []string{"", "A", "1", "1a", "-", " ", "a ", " a", "a b", "a.b", "a/b", "aB", "a\x00", "\x00", "\xff", "a\xff", "é", "aé", "abcdefghijklm", strings.Repeat("a", 5000)}
	for b := range 256 {
		if w := string([]byte{byte(b)}); !isName(w) {
			l = append(l, w)
		}
		if w := string([]byte{'a', byte(b)}); !isName(w) {
			l = append(l, w)
		}
	}
	return l
}

// Promise 13.1: New has no files, its power is on, and no number of steps lets it fail.
func TestNew(t *testing.T) {
	if Room != 262144 {
		t.Errorf("Room = %d", Room)
	}
	d, m := New(), newModel()
	same(t, "New", d, m)
	for range 100 {
		both(t, d, m, appended("a", "x"), synced("a"), removed("a"), appended("b", ""))
	}
	if d, other := New(), New(); d.Append("a", "x") != api.OK || len(other.Names()) != 0 {
		t.Errorf("what New returns is not new")
	}
}

// Promise 13.1: the chapter's example of Arm.
func TestArmExample(t *testing.T) {
	d := New()
	ok(t, d, appended("a", "x"), appended("b", "y"), arm(1), removed("a"))
	if e := d.Sync("b"); e != api.ErrDown || !d.Down() || d.Lasts("b") != 0 {
		t.Errorf("Sync = %d, Down = %v, Lasts = %d", e, d.Down(), d.Lasts("b"))
	}
}

// Promise 13.1: so many steps of each kind succeed as the disk is armed with, and the next one, of each kind, has no effect.
func TestArm(t *testing.T) {
	steps := []call{appended("a", "uv"), appended("c", ""), appended("a", ""), synced("a"), removed("a")}
	for n := range 6 {
		for _, x := range steps {
			for _, last := range steps {
				d, m := New(), newModel()
				both(t, d, m, appended("a", "xyz"), synced("a"), appended("a", "w"), arm(n))
				for range n {
					both(t, d, m, x)
					if x.kind == doRemove {
						// What is removed must be there again for the next one, ahead of which the disk is armed anew.
						left := m.steps
						both(t, d, m, arm(-1), appended("a", "xyz"), arm(left))
					}
				}
				if m.off || m.steps != 0 {
					t.Fatalf("%d steps are left", m.steps)
				}
				both(t, d, m, last)
				if !d.Down() {
					t.Errorf("Arm(%d), %v %d times, %v: the power is on", n, x, n, last)
				}
				both(t, d, m, steps...)
				both(t, d, m, mended(1))
			}
		}
	}
}

// Promise 13.1: a negative number disarms a disk, 0 leaves no step, and the last call of Arm counts.
func TestArmAgain(t *testing.T) {
	for _, n := range []int{-1, -2, -1000, math.MinInt, math.MaxInt} {
		for _, first := range []int{0, 1, 2} {
			d, m := New(), newModel()
			both(t, d, m, arm(first), arm(n))
			for range 10 {
				both(t, d, m, appended("a", "x"), synced("a"), removed("a"))
			}
			both(t, d, m, arm(first))
			for range first {
				both(t, d, m, appended("a", "x"))
			}
			if e := d.Append("a", "y"); e != api.ErrDown || !d.Down() {
				t.Errorf("Arm(%d), %d steps: the next one = %d", first, first, e)
			}
		}
	}
	d, m := New(), newModel()
	both(t, d, m, arm(2), appended("a", "x"), arm(2), appended("a", "x"), appended("a", "x"), arm(1), appended("a", "x"), appended("a", "x"))
	if !d.Down() {
		t.Errorf("the power is on after more steps than the disk was armed with")
	}
}

// Promise 13.1: neither calls that are no steps nor those that are refused spend the steps that are left, or let the power fail if none is.
func TestArmSpent(t *testing.T) {
	for n := range 3 {
		d := New()
		ok(t, d, appended("a", filled(Room)), arm(n))
		for range 5 {
			refused(t, d, appended("a", "x"), api.ErrFull)
			refused(t, d, appended("b", filled(Room+1)), api.ErrFull)
			refused(t, d, appended("A", "x"), api.ErrField)
			refused(t, d, synced("A"), api.ErrField)
			refused(t, d, removed(""), api.ErrField)
			refused(t, d, synced("b"), api.ErrNone)
			refused(t, d, removed("b"), api.ErrNone)
			d.Read("a")
			d.Read("b")
			d.Lasts("a")
			d.Names()
			c := d.Copy()
			c.Sync("a")
			if d.Down() {
				t.Fatalf("the power is off after calls that are no steps")
			}
		}
		for range n {
			ok(t, d, synced("a"))
		}
		refused(t, d.Copy(), appended("a", "x"), api.ErrFull)
		if e := d.Sync("a"); e != api.ErrDown || !d.Down() {
			t.Errorf("Arm(%d): after %d steps, Sync = %d", n, n, e)
		}
	}
}

// Promise 13.1: Append puts bytes of any kind behind those that are there, and makes none durable; Sync makes all of one file durable.
func TestAppend(t *testing.T) {
	d, m := New(), newModel()
	both(t, d, m,
		appended("a", ""), appended("a", "x"), appended("a", ""), appended("b", "y\x00\xff\n"), synced("a"),
		appended("a", "\x00é"), appended("b", strings.Repeat("z", 1000)), synced("b"), synced("b"), appended("c", ""), synced("c"),
		appended("abcdefghijkl", "long"), appended("z9", "short"), synced("a"))
	if s, e := d.Read("a"); s != "x\x00é" || e != api.OK || d.Lasts("a") != 4 {
		t.Errorf("Read = %q, %d, Lasts = %d", s, e, d.Lasts("a"))
	}
}

// Promise 13.1: Remove removes one file, whole, and what has its name later begins anew.
func TestRemove(t *testing.T) {
	d, m := New(), newModel()
	both(t, d, m, appended("a", "xyz"), synced("a"), appended("b", "w"), synced("b"), removed("a"), removed("a"), synced("a"),
		appended("a", "v"), removed("b"), removed("a"), appended("a", ""), removed("a"), mended(5, 5))
	both(t, d, m, appended("a", "xyz"), synced("a"), removed("a"), appended("a", "uvw"), mended(1))
	if s, _ := d.Read("a"); s != "u" {
		t.Errorf("Read = %q after Remove, Append and Mend(1)", s)
	}
}

// Promise 13.1: what is no name is refused by each step, with bytes that have no space too, and whatever files there are.
func TestWrongNames(t *testing.T) {
	full := New()
	ok(t, full, appended("a", filled(Room)))
	armed := New()
	ok(t, armed, appended("a", "x"), arm(0))
	for _, d := range []*Disk{New(), full, armed} {
		for _, w := range wrongNames() {
			refused(t, d, appended(w, ""), api.ErrField)
			refused(t, d, appended(w, "x"), api.ErrField)
			refused(t, d, synced(w), api.ErrField)
			refused(t, d, removed(w), api.ErrField)
		}
		refused(t, d, appended("", filled(Room+1)), api.ErrField)
		if d.Down() {
			t.Errorf("the power is off after names that are none")
		}
	}
}

// Promise 13.1: without power each step is ErrDown, whatever else is wrong with it.
func TestDownFirst(t *testing.T) {
	d := New()
	ok(t, d, appended("a", "xyz"), synced("a"), appended("a", filled(Room-3)), arm(0))
	if e := d.Append("a", ""); e != api.ErrDown {
		t.Fatalf("Append = %d", e)
	}
	for _, name := range append(wrongNames(), "a", "b") {
		for _, c := range []call{appended(name, ""), appended(name, "x"), appended(name, filled(Room+1)), synced(name), removed(name)} {
			if e := c.on(d); e != api.ErrDown {
				t.Errorf("%v without power = %d", c, e)
			}
		}
		if s, e := d.Read(name); s != "" || e != api.ErrDown {
			t.Errorf("Read(%q) without power = %q, %d", name, s, e)
		}
	}
	// The power stays off, however the disk is armed.
	for _, n := range []int{5, 0, -1} {
		d.Arm(n)
		if e := d.Sync("a"); e != api.ErrDown || !d.Down() {
			t.Errorf("Arm(%d) without power: Sync = %d, Down = %v", n, e, d.Down())
		}
	}
	if d.Lasts("a") != 3 || !slices.Equal(d.Names(), []string{"a"}) {
		t.Errorf("Lasts = %d, Names = %q", d.Lasts("a"), d.Names())
	}
	d.Mend([]int{Room - 3})
	if s, e := d.Read("a"); s != "xyz"+filled(Room-3) || e != api.OK {
		t.Errorf("Read after Mend: %d bytes, %d", len(s), e)
	}
}

// Promise 13.1: all files together have at most 2^18 bytes, in one file or in many, and one more is ErrFull.
func TestRoom(t *testing.T) {
	for _, parts := range [][]int{{Room}, {Room - 1, 1}, {1, Room - 1}, {0, Room, 0}, {100, 200, Room - 300}, {Room / 2, Room / 2}} {
		d := New()
		for i, n := range parts {
			ok(t, d, appended(string(rune('a'+i)), filled(n)))
		}
		for _, name := range []string{"a", "b", "new"} {
			refused(t, d, appended(name, "x"), api.ErrFull)
			refused(t, d, appended(name, filled(Room)), api.ErrFull)
			refused(t, d, appended(name, filled(Room+1)), api.ErrFull)
		}
		ok(t, d, appended("a", ""), appended("new", ""), synced("a"))
		refused(t, d, appended("a", "x"), api.ErrFull)
	}
	d := New()
	refused(t, d, appended("a", filled(Room+1)), api.ErrFull)
	ok(t, d, appended("a", filled(Room-10)))
	refused(t, d, appended("a", filled(11)), api.ErrFull)
	refused(t, d, appended("b", filled(11)), api.ErrFull)
	ok(t, d, appended("b", filled(9)), appended("a", filled(1)))
	refused(t, d, appended("b", filled(1)), api.ErrFull)
}

// Promises 13.1, 13.3: what is removed, or lost when the power fails, leaves its space to others; a Sync does not.
func TestRoomAgain(t *testing.T) {
	d := New()
	ok(t, d, appended("a", filled(Room-100)), appended("b", filled(100)), synced("b"))
	refused(t, d, appended("c", "x"), api.ErrFull)
	ok(t, d, removed("b"))
	refused(t, d, appended("c", filled(101)), api.ErrFull)
	ok(t, d, appended("c", filled(100)), removed("a"))
	refused(t, d, appended("c", filled(Room-99)), api.ErrFull)
	ok(t, d, appended("c", filled(Room-100)), mended(50))
	refused(t, d, appended("a", filled(Room-49)), api.ErrFull)
	ok(t, d, appended("a", filled(Room-50)), mended())
	refused(t, d, appended("a", filled(Room-49)), api.ErrFull)
	ok(t, d, appended("a", filled(Room-50)))
}

// Promise 13.1: a disk that is not armed takes any number of steps, until it is full byte by byte.
func TestRoomByBytes(t *testing.T) {
	d := New()
	want := filled(Room)
	for i := range Room {
		ok(t, d, appended("a", want[i:i+1]), synced("a"))
	}
	refused(t, d, appended("a", "x"), api.ErrFull)
	if s, e := d.Read("a"); s != want || e != api.OK || d.Lasts("a") != Room {
		t.Errorf("Read = %d bytes, %d, Lasts = %d", len(s), e, d.Lasts("a"))
	}
}

// Promise 13.2: Read returns all bytes, durable or not; nothing is there under any other name, or one that is none.
func TestRead(t *testing.T) {
	d := New()
	ok(t, d, appended("a", "xyz"), synced("a"), appended("a", "uv"), appended("b", ""))
	for _, c := range []struct {
		name, s string
		e       api.Errno
	}{{"a", "xyzuv", api.OK}, {"b", "", api.OK}, {"c", "", api.ErrNone}, {"aa", "", api.ErrNone}} {
		if s, e := d.Read(c.name); s != c.s || e != c.e {
			t.Errorf("Read(%q) = %q, %d; want %q, %d", c.name, s, e, c.s, c.e)
		}
	}
	for _, w := range wrongNames() {
		if s, e := d.Read(w); s != "" || e != api.ErrNone {
			t.Errorf("Read(%q) = %q, %d", w, s, e)
		}
		if n := d.Lasts(w); n != 0 {
			t.Errorf("Lasts(%q) = %d", w, n)
		}
	}
}

// Promise 13.2, rule R4: what was read stays as it was, whatever is then done with the disk.
func TestReadStays(t *testing.T) {
	d := New()
	ok(t, d, appended("a", "xyz"), synced("a"), appended("a", "uv"))
	before, _ := d.Read("a")
	ok(t, d, mended(), appended("a", "12345678"))
	after, _ := d.Read("a")
	ok(t, d, removed("a"), appended("a", "new"))
	if before != "xyzuv" || after != "xyz12345678" {
		t.Errorf("what was read is now %q and %q", before, after)
	}
}

// Promise 13.2: Lasts is the number of durable bytes, with the power on or off.
func TestLasts(t *testing.T) {
	d := New()
	at := func(want int) {
		t.Helper()
		if n := d.Lasts("a"); n != want {
			t.Errorf("Lasts = %d; want %d", n, want)
		}
	}
	at(0)
	ok(t, d, appended("a", "xyz"))
	at(0)
	ok(t, d, synced("a"))
	at(3)
	ok(t, d, appended("a", "uv"), appended("b", "w"), synced("b"))
	at(3)
	ok(t, d, arm(0))
	if e := d.Sync("a"); e != api.ErrDown {
		t.Errorf("Sync = %d", e)
	}
	at(3)
	ok(t, d, mended(1))
	at(4)
	ok(t, d, appended("a", "q"), synced("a"))
	at(5)
	ok(t, d, removed("a"))
	at(0)
}

// Promise 13.2, rule R4: Names are in the order of texts, with the power on or off, and new memory.
func TestNames(t *testing.T) {
	want := []string{"a", "a0", "a9", "aa", "aaaaaaaaaaaa", "ab", "b", "b10", "b2", "ba", "z", "z0", "zz"}
	r := rand.New(rand.NewSource(1))
	for range 20 {
		d := New()
		for _, i := range r.Perm(len(want)) {
			ok(t, d, appended(want[i], ""))
		}
		for _, off := range []bool{false, true} {
			if off {
				d.Arm(0)
				d.Sync("a")
			}
			l := d.Names()
			if !slices.Equal(l, want) || d.Down() != off {
				t.Fatalf("Names = %q, Down = %v", l, d.Down())
			}
			clear(l)
			if !slices.Equal(d.Names(), want) {
				t.Fatalf("Names = %q after a change of what it returned", d.Names())
			}
		}
	}
}

// Promise 13.3: the chapter's examples of Mend.
func TestMendExample(t *testing.T) {
	d := New()
	ok(t, d, appended("a", "xyz"), synced("a"), appended("a", "uv"), appended("b", "w"), mended(1))
	if s, e := d.Read("a"); s != "xyzu" || e != api.OK || d.Lasts("a") != 4 {
		t.Errorf("Read(a) = %q, %d, Lasts = %d", s, e, d.Lasts("a"))
	}
	if s, e := d.Read("b"); s != "" || e != api.ErrNone || !slices.Equal(d.Names(), []string{"a"}) {
		t.Errorf("Read(b) = %q, %d, Names = %q", s, e, d.Names())
	}
}

// Promise 13.3: each number to keep is taken modulo what is not durable, plus 1; one below 0 is 0, and so is one that is not there.
func TestMendKeep(t *testing.T) {
	for other := range 6 {
		keeps := []int{-1, -2, -other, -other - 1, math.MinInt, math.MinInt + 1, math.MaxInt, math.MaxInt - 1, 1 << 32, 1<<32 + 1}
		for k := range 20 {
			keeps = append(keeps, k)
		}
		for _, k := range keeps {
			for _, durable := range []int{0, 1, 3} {
				d, m := New(), newModel()
				both(t, d, m, appended("b", filled(durable)), synced("b"), appended("b", filled(other)), mended(k))
				want := durable
				if k > 0 {
					want += k % (other + 1)
				}
				if s, _ := d.Read("b"); len(s) != want || d.Lasts("b") != want {
					t.Errorf("Mend(%d) of %d and %d bytes: %d bytes, Lasts = %d; want %d", k, durable, other, len(s), d.Lasts("b"), want)
				}
			}
		}
	}
}

// Promise 13.3: each file has the number at its place among all names, those of durable files and of files that are removed among them.
func TestMendPlaces(t *testing.T) {
	for _, c := range []struct {
		keep []int
		want string
	}{
		{nil, "a 2 xy 0 2;c 1 p 0 1"},
		{[]int{}, "a 2 xy 0 2;c 1 p 0 1"},
		{[]int{1}, "a 2 xy 0 2;c 1 p 0 1"},
		{[]int{1, 1}, "a 2 xy 0 2;b 1 u 0 1;c 1 p 0 1"},
		{[]int{0, 2}, "a 2 xy 0 2;b 2 uv 0 2;c 1 p 0 1"},
		{[]int{2, 0, 2}, "a 2 xy 0 2;c 3 pqr 0 3"},
		{[]int{7, 3, 3}, "a 2 xy 0 2;c 1 p 0 1"},
		{[]int{0, -1, 4, 3}, "a 2 xy 0 2;c 2 pq 0 2"},
		{[]int{0, 0, 0, 3}, "a 2 xy 0 2;c 1 p 0 1"},
		{[]int{0, 0, 0, 3, 2}, "a 2 xy 0 2;c 1 p 0 1;e 2 mn 0 2"},
		{[]int{5, 5, 5, 5, 5, 5, 5}, "a 2 xy 0 2;b 2 uv 0 2;c 3 pqr 0 3;e 1 m 0 1"},
	} {
		for _, off := range []bool{false, true} {
			d := New()
			// In another order than that of the names.
			ok(t, d, appended("e", "mno"), appended("c", "p"), appended("b", "uv"), synced("c"), appended("c", "qr"),
				appended("a", "xy"), synced("a"), appended("d", ""))
			if off {
				d.Arm(0)
				d.Append("a", "lost")
			}
			keep := append(slices.Clone(c.keep), 8, 9)[:len(c.keep)]
			d.Mend(keep)
			if got := told(d); got != c.want || d.Down() {
				t.Errorf("Mend(%v) with the power off %v: %s, Down = %v; want %s", c.keep, off, got, d.Down(), c.want)
			}
			if !slices.Equal(keep, c.keep) || !slices.Equal(keep[:len(keep)+2][len(keep):], []int{8, 9}) {
				t.Errorf("Mend changed what it was given: %v", keep[:len(keep)+2])
			}
		}
	}
}

// Promise 13.3: Mend disarms a disk, with steps left or without, and restores the power.
func TestMendDisarms(t *testing.T) {
	for n := range 4 {
		for steps := range 5 {
			d, m := New(), newModel()
			both(t, d, m, appended("a", "x"), synced("a"), arm(n))
			for range steps {
				both(t, d, m, appended("a", "y"))
			}
			both(t, d, m, mended(1))
			for range 10 {
				both(t, d, m, appended("a", "z"), synced("a"), appended("b", "w"), removed("b"))
			}
			both(t, d, m, arm(1), appended("a", "z"), appended("a", "z"), mended())
		}
	}
}

// Promise 13.3: what is written after Mend stands behind what was kept, and only that is not durable.
func TestMendGoesOn(t *testing.T) {
	d, m := New(), newModel()
	both(t, d, m, appended("a", "xyz"), synced("a"), appended("a", "uvw"), mended(1), appended("a", "12"), mended(), appended("a", "345"), mended(2), mended(), mended(9))
	if s, _ := d.Read("a"); s != "xyzu34" {
		t.Errorf("Read = %q", s)
	}
}

// Promise 13.3: what is done with a disk does not reach its copy, nor the other way round, in whatever order.
func TestCopy(t *testing.T) {
	steps := []call{appended("a", "12"), appended("b", "34"), appended("c", "56"), synced("a"), synced("b"), removed("a"), arm(0), arm(1), arm(-1), mended(), mended(1), mended(1, 2)}
	for _, ahead := range [][]call{nil, {arm(0)}, {arm(1)}, {arm(2)}, {arm(0), synced("a")}} {
		for _, x := range steps {
			for _, y := range steps {
				d, m := New(), newModel()
				both(t, d, m, appended("a", "xyz"), synced("a"), appended("a", "uv"), appended("b", "w"))
				both(t, d, m, ahead...)
				c, n := d.Copy(), m.copy()
				same(t, "Copy", c, n)
				both(t, d, m, x)
				same(t, "Copy", c, n)
				both(t, c, n, y)
				same(t, "the other disk", d, m)
				both(t, d, m, mended(2), appended("a", "789"))
				same(t, "Copy", c, n)
				both(t, c, n, mended(1), appended("a", "qrstuvwxyz"))
				same(t, "the other disk", d, m)
			}
		}
	}
}

// Promise 13.3: a copy has as many steps left as the disk, and spends its own.
func TestCopyArmed(t *testing.T) {
	for n := -1; n < 5; n++ {
		d := New()
		ok(t, d, appended("a", "x"), arm(n))
		for used := 0; used <= max(n, 0); used++ {
			c := d.Copy()
			steps := 0
			for steps < 20 && c.Sync("a") == api.OK {
				steps++
			}
			want := 20
			if n >= 0 {
				want = n - used
			}
			if steps != want || c.Down() != (n >= 0) || d.Down() {
				t.Errorf("Arm(%d), %d steps: a copy has %d left; want %d", n, used, steps, want)
			}
			if used < n {
				ok(t, d, synced("a"))
			}
		}
	}
}

// walk goes through all sequences of so many calls, each on a copy, and holds them against the model.
func walk(t *testing.T, d *Disk, m *model, calls []call, depth int) {
	t.Helper()
	if depth == 0 {
		return
	}
	for _, c := range calls {
		d2, m2 := d.Copy(), m.copy()
		both(t, d2, m2, c)
		walk(t, d2, m2, calls, depth-1)
	}
	same(t, "the disk that was copied", d, m)
}

// Promises 13.1 to 13.3: all short sequences of calls, held against the definitions.
func TestAllShort(t *testing.T) {
	calls := []call{appended("a", "xyz"), appended("a", ""), appended("b", "w"), synced("a"), synced("b"), removed("a"),
		arm(0), arm(1), arm(-1), mended(), mended(1), mended(2, 1)}
	walk(t, New(), newModel(), calls, 5)
}

// anyCall is a call of any kind, most of which are not refused.
func anyCall(r *rand.Rand) call {
	name := []string{"a", "b", "c", "a1", "A", ""}[min(r.Intn(20)/4, 5)]
	switch r.Intn(12) {
	case 0:
		return arm(r.Intn(12) - 2)
	case 1:
		return mended(r.Perm(8)[:r.Intn(7)]...)
	case 2:
		return removed(name)
	case 3, 4, 5:
		return synced(name)
	case 6:
		return appended(name, filled(r.Intn(Room/3)))
	}
	return appended(name, filled(r.Intn(9)))
}

// Promises 13.1 to 13.3: long sequences of calls on one disk, held against the definitions.
func TestLong(t *testing.T) {
	for seed := range int64(60) {
		r := rand.New(rand.NewSource(seed))
		d, m := New(), newModel()
		for range 60 {
			both(t, d, m, anyCall(r))
		}
	}
}

// written is what a file was given since it is there, and which beginning of that was synced.
type written struct{ all, sure string }

// follow writes down what a call that succeeded does to the files that there are.
func follow(l map[string]written, c call) {
	w := l[c.name]
	switch c.kind {
	case doAppend:
		l[c.name] = written{w.all + c.s, w.sure}
	case doSync:
		l[c.name] = written{w.all, w.all}
	case doRemove:
		delete(l, c.name)
	}
}

// checkSurvived holds a disk, after Mend, against what was written ahead of it: what was synced is there, and behind it a beginning of the rest.
func checkSurvived(t *testing.T, d *Disk, l map[string]written) {
	t.Helper()
	for _, name := range d.Names() {
		if _, known := l[name]; !known {
			t.Fatalf("there is a file %q that nobody wrote", name)
		}
	}
	for name, w := range l {
		s, e := d.Read(name)
		if e != api.OK && (e != api.ErrNone || w.sure != "") {
			t.Fatalf("Read(%q) = %d", name, e)
		}
		if !strings.HasPrefix(s, w.sure) || !strings.HasPrefix(w.all, s) || d.Lasts(name) != len(s) {
			t.Fatalf("Read(%q) = %q, Lasts = %d; written was %q, and synced %q", name, s, d.Lasts(name), w.all, w.sure)
		}
	}
}

// Promise 13.4: wherever the power fails, what was synced survives each Mend, and is followed by a beginning of what was written since.
func TestSurvives(t *testing.T) {
	steps := []call{appended("a", "abc"), synced("a"), appended("b", "xy"), appended("a", "defg"), appended("b", "z"), synced("b"),
		removed("a"), appended("a", "new"), appended("b", "uvw"), synced("a"), appended("a", "er")}
	for n := range len(steps) + 1 {
		for k := -1; k < 8; k++ {
			for k2 := -1; k2 < 6; k2++ {
				d, l := New(), map[string]written{}
				d.Arm(n)
				for i, c := range steps {
					if e := c.on(d); (e == api.OK) != (i < n) {
						t.Fatalf("Arm(%d): step %d = %d", n, i, e)
					} else if e == api.OK {
						follow(l, c)
					}
				}
				d.Mend([]int{k, k2})
				checkSurvived(t, d, l)
			}
		}
	}
}

// Promise 13.4: the same for many power failures, one after another.
func TestSurvivesMany(t *testing.T) {
	for seed := range int64(300) {
		r := rand.New(rand.NewSource(seed))
		d, l := New(), map[string]written{}
		for range 150 {
			c := anyCall(r)
			if c.kind == doAppend {
				c.s = filled(len(c.s) % 9)
			}
			if e := c.on(d); e != api.OK {
				continue
			}
			follow(l, c)
			if c.kind != doMend {
				continue
			}
			checkSurvived(t, d, l)
			// What is read now is what the next Mend must keep.
			clear(l)
			for _, name := range d.Names() {
				s, _ := d.Read(name)
				l[name] = written{s, s}
			}
		}
	}
}
