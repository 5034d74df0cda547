package desk_test

import (
	"reflect"
	"slices"
	"strconv"
	"testing"

	"slipsheet/api"
	"slipsheet/fresh"
	"slipsheet/mend"
	"slipsheet/move"
	"slipsheet/reads"
	"slipsheet/slots"
	"slipsheet/snaps"
	"slipsheet/stack"
	"slipsheet/tree"
	"slipsheet/wire"
	"slipsheet/writes"
)

const zero = "\x00\x00\x00\x00"

// A life is an image through all that is done to it, beside what must be read of it and of its snapshots.
type life struct {
	t      *testing.T
	m      api.Image
	now    []string
	past   map[string][]string
	writes int
	full   int
}

func born(t *testing.T) *life {
	m, e := fresh.Image(16)
	if e != api.OK {
		t.Fatal(e)
	}
	return &life{t: t, m: m, now: slices.Repeat([]string{zero}, 16), past: map[string][]string{}}
}

// need is how many slots a write to page n must take.
func (l *life) need(n int) int {
	r := l.m.Root[n/4]
	own := r != 0 && l.m.Refs[r] == 1
	if k, _ := tree.Look(l.m, n); own && k > 0 && l.m.Refs[k] == 1 {
		return 0
	}
	if own {
		return 1
	}
	return 2
}

func (l *life) used() int {
	n, e := slots.Used(l.m.Slots)
	if e != api.OK {
		l.t.Fatal(e)
	}
	return n
}

// write: what is written in place takes no slot; a write is refused only if too few are left.
func (l *life) write(n int, page string) {
	need, had := l.need(n), l.used()
	x, e := writes.Write(l.m, n, page)
	if had+need > api.MaxSlots-1 {
		if e != api.ErrFull {
			l.t.Fatalf("%d slots are wanted, %d are used: %d", need, had, e)
		}
		l.full++
		return
	}
	if e != api.OK {
		l.t.Fatalf("page %d: %d, though %d slots are wanted, and %d are used", n, e, need, had)
	}
	l.m, l.now[n] = x, page
	l.writes++
	if l.used() != had+need {
		l.t.Fatalf("page %d: %d slots are used, %d were; %d are wanted", n, l.used(), had, need)
	}
}

// become: a change that may want a slot, and what is read then.
func (l *life) become(x api.Image, e api.Errno, now []string) {
	if e == api.ErrFull {
		l.full++
		return
	}
	if e != api.OK {
		l.t.Fatal(e)
	}
	l.m, l.now = x, now
}

func (l *life) zeroed(n int) []string {
	now := slices.Clone(l.now)
	now[n] = zero
	return now
}

func (l *life) resize(n int) {
	x, e := writes.Resize(l.m, n)
	now := slices.Concat(l.now, slices.Repeat([]string{zero}, 16))[:n]
	l.become(x, e, now)
}

func (l *life) snap(name string) {
	had := l.used()
	x, e := snaps.Create(l.m, name)
	if e != api.OK {
		return // it is there, or there are too many
	}
	l.m, l.past[name] = x, slices.Clone(l.now)
	if l.used() != had {
		l.t.Fatalf("a snapshot takes %d slots", l.used()-had)
	}
}

func (l *life) back(name string) {
	x, e := snaps.Revert(l.m, name)
	if e == api.OK {
		l.m, l.now = x, slices.Clone(l.past[name])
	}
}

func (l *life) drop(name string) {
	x, e := snaps.Delete(l.m, name)
	if e == api.OK {
		l.m = x
		delete(l.past, name)
	}
}

// step: one that is drawn.
func (l *life) step(d *draw) {
	name := []string{"a", "b", "c", "d"}[d.n(4)]
	switch k := d.n(40); {
	case k == 0:
		l.resize(d.n(17))
	case k < 3:
		l.resize(16)
	case k < 5:
		l.snap(name)
	case k == 5:
		l.back(name)
	case k == 6:
		l.drop(name)
	case k == 7:
		x, e := move.Pack(l.m)
		l.become(x, e, l.now)
	case len(l.now) == 0:
	case k < 10:
		n := d.n(len(l.now))
		x, e := writes.Wipe(l.m, n)
		l.become(x, e, l.zeroed(n))
	case k < 12:
		n := d.n(len(l.now))
		x, e := writes.Punch(l.m, n)
		l.become(x, e, l.zeroed(n))
	default:
		l.write(d.n(len(l.now)), strconv.Itoa(1000+d.n(9000)))
	}
}

// same: two images, but for empty lists, which may be nil or not.
func same(a, b api.Image) bool {
	s, e := wire.Write(a)
	x, f := wire.Write(b)
	return e == api.OK && f == api.OK && s == x && slices.Equal(a.Refs, b.Refs)
}

// asRead: the image reads as the life does, and so do its snapshots.
func (l *life) asRead(m api.Image, what string) {
	l.t.Helper()
	if x, e := reads.All(m); e != api.OK || !slices.Equal(x, l.now) {
		l.t.Fatalf("%s: %q %d, not %q", what, x, e, l.now)
	}
	if len(m.Snaps) != len(l.past) {
		l.t.Fatalf("%s: %d snapshots, not %d", what, len(m.Snaps), len(l.past))
	}
	for name, was := range l.past {
		if x, e := reads.Past(m, name); e != api.OK || !slices.Equal(x, was) {
			l.t.Fatalf("%s: snapshot %s: %q %d, not %q", what, name, x, e, was)
		}
	}
}

// right: what is read is as it must be; nothing leaks; what is right stays when it is repaired, and so do its bytes.
func (l *life) right() {
	l.asRead(l.m, "now")
	if e := tree.Check(l.m); e != api.OK {
		l.t.Fatalf("not right: %d, %+v", e, l.m)
	}
	if n, e := mend.Leaks(l.m); n != 0 || e != api.OK {
		l.t.Fatalf("%d slots leak: %d", n, e)
	}
	if x, e := mend.Repair(l.m); e != api.OK || !same(x, l.m) {
		l.t.Fatalf("repaired: %+v %d, not %+v", x, e, l.m)
	}
	s, _ := wire.Write(l.m)
	if x, e := wire.Read(s); e != api.OK || !same(x, l.m) {
		l.t.Fatalf("read: %+v %d, not %+v", x, e, l.m)
	}
	x, e := move.Pack(l.m)
	if e != api.OK || len(x.Slots) != l.used()+1 {
		l.t.Fatalf("packed: %+v %d", x, e)
	}
	l.asRead(x, "packed")
}

// mended: what is spoilt is repaired, and reads as it did.
func (l *life) mended(d *draw) {
	m := l.m
	m.Refs, m.Slots = slices.Clone(m.Refs), slices.Clone(m.Slots)
	for range 1 + d.n(3) {
		m.Refs[d.n(len(m.Refs))] = d.n(9) - 1
	}
	for k := range m.Slots {
		if k > 0 && m.Slots[k].Kind == api.Free && d.n(2) == 0 {
			m.Slots[k] = api.Slot{Kind: api.Data, Data: "leak"}
		}
	}
	x, e := mend.Repair(m)
	if e != api.OK || !same(x, l.m) {
		l.t.Fatalf("repaired: %+v %d, not %+v", x, e, l.m)
	}
}

// alone: the image without its snapshots is moved down and up, and is written into a flat one upon which it lies.
func (l *life) alone(d *draw) {
	m := l.m
	for _, s := range l.m.Snaps {
		m, _ = snaps.Delete(m, s.Name)
	}
	flat, e := move.Down(m)
	if e != api.OK || !slices.Equal(flat, l.now) {
		l.t.Fatalf("down: %q %d, not %q", flat, e, l.now)
	}
	up, e := move.Up(flat)
	if again, f := move.Down(up); e != api.OK || f != api.OK || !slices.Equal(again, flat) {
		l.t.Fatalf("down of up: %q %d %d, not %q", again, e, f, flat)
	}
	s := api.Stack{Top: m}
	for range d.n(17) {
		s.Base = append(s.Base, []string{zero, "base"}[d.n(2)])
	}
	c, e := stack.Commit(s)
	if e != api.OK || stack.Check(c) != api.OK {
		l.t.Fatalf("committed: %+v %d", c, e)
	}
	for n := range m.Guest + 1 {
		ahead, e := stack.Read(s, n)
		if behind, f := stack.Read(c, n); ahead != behind || e != f || (e == api.OK) != (n < m.Guest) {
			l.t.Fatalf("page %d: %q %d ahead of a commit, %q %d behind", n, ahead, e, behind, f)
		}
	}
}

func TestWhole(t *testing.T) {
	d := draw(11)
	written, full := 0, 0
	for range 150 {
		l := born(t)
		for range 150 {
			l.step(&d)
			l.right()
		}
		l.mended(&d)
		l.alone(&d)
		written += l.writes
		full += l.full
	}
	if written < 5000 || full < 300 {
		t.Errorf("%d writes, %d times too few slots were left", written, full)
	}
}

// TestWholeBack: a snapshot that is made, reverted to and deleted leaves what was, whatever was done between.
func TestWholeBack(t *testing.T) {
	d := draw(12)
	for range 300 {
		l := born(t)
		for range d.n(40) {
			l.step(&d)
		}
		l.drop("a")
		was, had := l.m, l.used()
		l.snap("keep")
		if _, kept := l.past["keep"]; !kept {
			continue // there are too many snapshots
		}
		for range d.n(40) {
			if len(l.now) > 0 {
				l.write(d.n(len(l.now)), "else")
			}
			l.resize(d.n(17))
		}
		l.back("keep")
		l.drop("keep")
		l.right()
		a, _ := move.Pack(was)
		b, _ := move.Pack(l.m)
		if l.used() != had || !same(a, b) || !reflect.DeepEqual(was.Root, l.m.Root) {
			t.Fatalf("%+v, not %+v", l.m, was)
		}
	}
}
