package stack_test

import (
	"math"
	"reflect"
	"slices"
	"testing"

	"slipsheet/api"
	"slipsheet/reads"
	"slipsheet/stack"
	"slipsheet/tree"
	"slipsheet/writes"
)

const zero = "\x00\x00\x00\x00"

func data(s string) api.Slot { return api.Slot{Kind: api.Data, Data: s} }
func table(t ...int) api.Slot {
	return api.Slot{Kind: api.Table, Table: t}
}

// sample: eleven pages upon nine: a table with a page, a hole, a blank and a page of 0; none; one with a hole upon the Base's last page, and one behind it. Slot 3 is free.
func sample() api.Stack {
	return api.Stack{
		Base: []string{"aaaa", "bbbb", "cccc", "dddd", "eeee", zero, "gggg", "hhhh", "iiii"},
		Top: api.Image{
			Guest: 11, Root: []int{2, 0, 5},
			Slots: []api.Slot{{}, data("AAAA"), table(1, 0, -1, 4), {}, data(zero), table(0, 0, 6, 0), data("KKKK")},
			Refs:  []int{0, 1, 1, 0, 1, 1, 1},
		},
	}
}

// samplePages: what is read of it.
func samplePages() []string {
	return []string{"AAAA", "bbbb", zero, zero, "eeee", zero, "gggg", "hhhh", "iiii", zero, "KKKK"}
}

// snapped: the sample with a snapshot that shares its first table.
func snapped() api.Stack {
	s := sample()
	s.Top.Snaps, s.Top.Refs[2] = []api.Snap{{Name: "old", Guest: 4, Root: []int{2}}}, 2
	return s
}

// blank: an image without slots that are used.
func blank(guest int) api.Image {
	return api.Image{Guest: guest, Root: make([]int, (guest+3)/4), Slots: make([]api.Slot, 1), Refs: make([]int, 1)}
}

// turned: the sample, changed.
func turned(turns ...func(s *api.Stack)) api.Stack {
	s := sample()
	for _, turn := range turns {
		turn(&s)
	}
	return s
}

// refused: the call answers that error, and nothing else.
func refused(t *testing.T, name string, s api.Stack, e, want api.Errno) {
	t.Helper()
	if e != want || !reflect.DeepEqual(s, api.Stack{}) {
		t.Errorf("%s: %+v %d, not %d", name, s, e, want)
	}
}

func TestJ1Right(t *testing.T) {
	for name, s := range map[string]api.Stack{
		"the sample":         sample(),
		"with a snapshot":    snapped(),
		"no Base":            turned(func(s *api.Stack) { s.Base = nil }),
		"the longest Base":   turned(func(s *api.Stack) { s.Base = slices.Repeat([]string{"base"}, 16) }),
		"nothing at all":     {Top: blank(0)},
		"a Base, and no Top": turned(func(s *api.Stack) { s.Top = blank(0) }),
	} {
		if e := stack.Check(s); e != api.OK {
			t.Errorf("%s: %d", name, e)
		}
	}
}

// TestJ1Wrong: the Base's error is told first, then the Top's, ahead of all else.
func TestJ1Wrong(t *testing.T) {
	many := func(s *api.Stack) { s.Base = slices.Repeat([]string{"base"}, 17) }
	short := func(s *api.Stack) { s.Base[8] = "iii" }
	for _, c := range []struct {
		name string
		want api.Errno
		s    api.Stack
	}{
		{"too long a Base", api.ErrMany, turned(many)},
		{"too long a Base, of no pages", api.ErrMany, turned(func(s *api.Stack) { s.Base = make([]string, 17) })},
		{"a page too short", api.ErrForm, turned(short)},
		{"a page too long, behind the Top", api.ErrForm, turned(func(s *api.Stack) { s.Base[8], s.Top = "iiiii", blank(2) })},
		{"Base ahead of Top", api.ErrForm, turned(short, func(s *api.Stack) { s.Top.Slots = nil })},
		{"Base ahead of Top, again", api.ErrMany, turned(many, func(s *api.Stack) { s.Top.Refs = nil })},
		{"Base ahead of counts", api.ErrForm, turned(short, func(s *api.Stack) { s.Top.Refs[1] = 2 })},
		{"nothing", api.ErrMany, api.Stack{}},
		{"no slots", api.ErrMany, turned(func(s *api.Stack) { s.Top.Slots = nil })},
		{"too many snapshots", api.ErrMany, turned(func(s *api.Stack) { s.Top.Snaps = make([]api.Snap, 4) })},
		{"no Refs", api.ErrForm, turned(func(s *api.Stack) { s.Top.Refs = nil })},
		{"a Root too short", api.ErrForm, turned(func(s *api.Stack) { s.Top.Root = []int{2} })},
		{"no such table", api.ErrForm, turned(func(s *api.Stack) { s.Top.Root[1] = 7 })},
		{"Guest less than 0", api.ErrRange, turned(func(s *api.Stack) { s.Top.Guest = -1 })},
		{"Guest too great", api.ErrRange, turned(func(s *api.Stack) { s.Top.Guest = math.MaxInt })},
		{"a wrong count", api.ErrRefs, turned(func(s *api.Stack) { s.Top.Refs[1] = 2 })},
		{"a leak", api.ErrRefs, turned(func(s *api.Stack) { s.Top.Slots[3] = data("leak") })},
		{"a leak and a snapshot", api.ErrRefs, turned(func(s *api.Stack) { *s = snapped(); s.Top.Slots[3] = data("leak") })},
	} {
		if e := stack.Check(c.s); e != c.want {
			t.Errorf("%s: Check %d, not %d", c.name, e, c.want)
		}
		for _, n := range []int{-1, 0, 1, 10, 11, math.MinInt, math.MaxInt} {
			if p, e := stack.Read(c.s, n); p != "" || e != c.want {
				t.Errorf("%s: Read %q %d, not %d", c.name, p, e, c.want)
			}
			for _, page := range []string{"wwww", "www"} {
				s, e := stack.Write(c.s, n, page)
				refused(t, c.name+": Write", s, e, c.want)
			}
		}
		s, e := stack.Commit(c.s)
		refused(t, c.name+": Commit", s, e, c.want)
	}
}

func TestJ1Read(t *testing.T) {
	for _, s := range []api.Stack{sample(), snapped()} {
		for n, want := range samplePages() {
			if p, e := stack.Read(s, n); p != want || e != api.OK {
				t.Errorf("page %d: %q %d, not %q", n, p, e, want)
			}
		}
	}
	for _, n := range []int{-1, 11, 12, 16, math.MinInt, math.MaxInt} {
		if p, e := stack.Read(sample(), n); p != "" || e != api.ErrRange {
			t.Errorf("page %d: %q %d", n, p, e)
		}
	}
}

// TestJ1ReadEdges: pages of the Base that the Top does not have are not read; without a Base it is as of the Top.
func TestJ1ReadEdges(t *testing.T) {
	short := turned(func(s *api.Stack) { s.Top = blank(2) })
	for n, want := range []string{"aaaa", "bbbb"} {
		if p, e := stack.Read(short, n); p != want || e != api.OK {
			t.Errorf("page %d: %q %d", n, p, e)
		}
	}
	for n := 2; n < 10; n++ {
		if p, e := stack.Read(short, n); p != "" || e != api.ErrRange {
			t.Errorf("page %d: %q %d", n, p, e)
		}
	}
	bare := turned(func(s *api.Stack) { s.Base = nil })
	for n := -1; n < 17; n++ {
		p, e := stack.Read(bare, n)
		if q, f := reads.Read(bare.Top, n); p != q || e != f {
			t.Errorf("page %d: %q %d, not %q %d", n, p, e, q, f)
		}
	}
}

func TestJ1Write(t *testing.T) {
	for _, was := range []api.Stack{sample(), snapped()} {
		for n := range was.Top.Guest {
			s, e := stack.Write(was, n, "wwww")
			top, f := writes.Write(was.Top, n, "wwww")
			if e != api.OK || f != api.OK || !reflect.DeepEqual(s, api.Stack{Base: sample().Base, Top: top}) {
				t.Errorf("page %d: %+v %d", n, s, e)
			}
			for k, want := range samplePages() {
				if k == n {
					want = "wwww"
				}
				if p, e := stack.Read(s, k); p != want || e != api.OK {
					t.Errorf("page %d written, page %d: %q %d", n, k, p, e)
				}
			}
		}
	}
	s, e := stack.Write(sample(), 4, zero)
	if p, _ := stack.Read(s, 4); p != zero || e != api.OK {
		t.Errorf("a page of 0 upon the Base: %q %d", p, e)
	}
}

func TestJ1WriteErrors(t *testing.T) {
	for _, n := range []int{-1, 11, 12, math.MinInt, math.MaxInt} {
		for _, page := range []string{"wwww", "www", ""} {
			s, e := stack.Write(sample(), n, page)
			refused(t, "no such page", s, e, api.ErrRange)
		}
	}
	for _, page := range []string{"", "www", "wwwww"} {
		s, e := stack.Write(sample(), 0, page)
		refused(t, "no page", s, e, api.ErrForm)
	}
	s, e := stack.Write(turned(func(s *api.Stack) { s.Top = blank(2) }), 2, "wwww")
	refused(t, "a page that only the Base has", s, e, api.ErrRange)
}

// crowd: a Top of four pages without a slot that is free; its only table is a snapshot's too.
func crowd(t *testing.T) api.Image {
	m := blank(4)
	m.Slots, m.Refs = []api.Slot{{}, table(2, 2, 0, 0), data("last")}, []int{0, 2, 2}
	m.Root, m.Snaps = []int{1}, []api.Snap{{Name: "a", Guest: 4, Root: []int{1}}}
	for i, name := range []string{"b", "c"} {
		x := api.Snap{Name: name, Guest: 16, Root: make([]int, 4)}
		for k := range x.Root {
			x.Root[k] = len(m.Slots)
			m.Slots = append(m.Slots, table(-1, 0, 0, 0))
		}
		m.Snaps = append(m.Snaps, x)
		for len(m.Slots) < 20*(i+1) {
			m.Slots[x.Root[0]+len(m.Slots)%4].Table[len(m.Slots)/4%4] = len(m.Slots)
			m.Slots = append(m.Slots, data("more"))
		}
	}
	m.Refs = make([]int, len(m.Slots))
	m.Refs, _ = tree.Counts(m)
	if e := tree.Check(m); e != api.OK || len(m.Slots) != api.MaxSlots {
		t.Fatalf("%+v %d", m, e)
	}
	return m
}

func TestJ1WriteFull(t *testing.T) {
	s := api.Stack{Base: []string{"aaaa", "bbbb", "cccc"}, Top: crowd(t)}
	for n := range 4 {
		x, e := stack.Write(s, n, "wwww")
		refused(t, "none is left", x, e, api.ErrFull)
		x, e = stack.Write(s, n, "www")
		refused(t, "no page, ahead of none is left", x, e, api.ErrForm)
	}
}

func TestJ2Commit(t *testing.T) {
	for _, c := range []struct {
		name string
		s    api.Stack
		want []string
	}{
		{"the sample", sample(), samplePages()},
		{"no Base", turned(func(s *api.Stack) { s.Base = nil }), []string{"AAAA", zero, zero, zero, zero, zero, zero, zero, zero, zero, "KKKK"}},
		{"a Base longer than the Top", turned(func(s *api.Stack) { s.Top = blank(3) }), []string{"aaaa", "bbbb", "cccc"}},
		{"a Top that is longer", turned(func(s *api.Stack) { s.Base, s.Top = s.Base[:1], blank(3) }), []string{"aaaa", zero, zero}},
		{"no pages in the Top", turned(func(s *api.Stack) { s.Top = blank(0) }), []string{}},
		{"no pages", api.Stack{Top: blank(0)}, []string{}},
		{"the most", turned(func(s *api.Stack) { s.Base, s.Top = slices.Repeat([]string{"base"}, 16), blank(16) }), slices.Repeat([]string{"base"}, 16)},
		{"many slots, all free", turned(func(s *api.Stack) {
			s.Top.Slots, s.Top.Refs, s.Top.Root = make([]api.Slot, 40), make([]int, 40), make([]int, 3)
		}),
			append(sample().Base, zero, zero)},
	} {
		s, e := stack.Commit(c.s)
		if want := (api.Stack{Base: c.want, Top: blank(len(c.want))}); e != api.OK || !reflect.DeepEqual(s, want) {
			t.Errorf("%s: %+v %d, not %+v", c.name, s, e, want)
		}
	}
}

func TestJ2Busy(t *testing.T) {
	s, e := stack.Commit(snapped())
	refused(t, "a snapshot that shares", s, e, api.ErrBusy)
	s, e = stack.Commit(turned(func(s *api.Stack) { s.Top.Snaps = []api.Snap{{Name: "none"}} }))
	refused(t, "a snapshot of no pages", s, e, api.ErrBusy)
	s, e = stack.Commit(api.Stack{Top: crowd(t)})
	refused(t, "three snapshots", s, e, api.ErrBusy)
}

// draw: numbers, the same each time.
type draw uint64

func (d *draw) n(n int) int {
	*d = *d*6364136223846793005 + 1442695040888963407
	return int(uint64(*d) >> 33 % uint64(n))
}

// stack: one of random lengths, whose Top was written to, wiped and punched.
func (d *draw) stack() api.Stack {
	s := api.Stack{Top: blank(d.n(17))}
	for range d.n(17) {
		s.Base = append(s.Base, []string{zero, "aaaa", "bbbb"}[d.n(3)])
	}
	for range d.n(20) {
		if s.Top.Guest == 0 {
			break
		}
		n := d.n(s.Top.Guest)
		switch d.n(4) {
		case 0:
			s.Top, _ = writes.Wipe(s.Top, n)
		case 1:
			s.Top, _ = writes.Punch(s.Top, n)
		default:
			s.Top, _ = writes.Write(s.Top, n, []string{zero, "tops", "else"}[d.n(3)])
		}
	}
	return s
}

// all: what is read, page by page, up to the first that is not there.
func all(t *testing.T, s api.Stack) []string {
	t.Helper()
	var l []string
	for n := 0; ; n++ {
		p, e := stack.Read(s, n)
		if e == api.ErrRange && p == "" {
			return l
		}
		if e != api.OK {
			t.Fatalf("page %d: %q %d, of %+v", n, p, e, s)
		}
		l = append(l, p)
	}
}

func TestJ3Drawn(t *testing.T) {
	d := draw(5)
	for range 3000 {
		s := d.stack()
		ahead := all(t, s)
		c, e := stack.Commit(s)
		if e != api.OK || stack.Check(c) != api.OK {
			t.Fatalf("%+v %d, of %+v", c, e, s)
		}
		if behind := all(t, c); !slices.Equal(ahead, behind) || !slices.Equal(c.Base, ahead) {
			t.Fatalf("%q, not %q, of %+v", behind, ahead, s)
		}
		again, e := stack.Commit(c)
		if e != api.OK || !reflect.DeepEqual(again, c) {
			t.Fatalf("once more: %+v %d, not %+v", again, e, c)
		}
	}
}

// roomy: a copy of l with spare room behind it, which holds fill.
func roomy[T any](l []T, fill T) []T {
	return append(slices.Clone(l), fill, fill)[:len(l)]
}

// roomySample: a stack in which each list has spare room.
func roomySample(s api.Stack) api.Stack {
	m := &s.Top
	m.Root, m.Refs = roomy(m.Root, 77), roomy(m.Refs, 77)
	for i, s := range m.Slots {
		m.Slots[i].Table = roomy(s.Table, 77)
	}
	for i, s := range m.Snaps {
		m.Snaps[i].Root = roomy(s.Root, 77)
	}
	m.Slots, m.Snaps = roomy(m.Slots, data("room")), roomy(m.Snaps, api.Snap{Name: "room"})
	s.Base = roomy(s.Base, "room")
	return s
}

// whole: the stack with all the room of its lists, deeply copied.
func whole(s api.Stack) api.Stack {
	m := &s.Top
	m.Root, m.Refs = slices.Clone(m.Root[:cap(m.Root)]), slices.Clone(m.Refs[:cap(m.Refs)])
	m.Slots, m.Snaps = slices.Clone(m.Slots[:cap(m.Slots)]), slices.Clone(m.Snaps[:cap(m.Snaps)])
	for i, s := range m.Slots {
		m.Slots[i].Table = slices.Clone(s.Table[:cap(s.Table)])
	}
	for i, s := range m.Snaps {
		m.Snaps[i].Root = slices.Clone(s.Root[:cap(s.Root)])
	}
	s.Base = slices.Clone(s.Base[:cap(s.Base)])
	return s
}

// spoil: each number of each list gets that of its list; then each list must have its own.
func spoil(t *testing.T, s api.Stack) {
	t.Helper()
	m := s.Top
	m.Slots, m.Snaps = m.Slots[:cap(m.Slots)], m.Snaps[:cap(m.Snaps)]
	lists := [][]int{m.Root[:cap(m.Root)], m.Refs[:cap(m.Refs)]}
	for i, s := range m.Slots {
		lists = append(lists, s.Table[:cap(s.Table)])
		m.Slots[i].Data = "mine"
	}
	for i, s := range m.Snaps {
		lists = append(lists, s.Root[:cap(s.Root)])
		m.Snaps[i].Name = "mine"
	}
	for i, l := range lists {
		for k := range l {
			l[k] = 1000 + i
		}
	}
	for i, l := range lists {
		if slices.ContainsFunc(l, func(k int) bool { return k != 1000+i }) {
			t.Errorf("two lists share memory: %v", lists)
		}
	}
	for i := range s.Base[:cap(s.Base)] {
		s.Base[:cap(s.Base)][i] = "mine"
	}
}

func TestP2(t *testing.T) {
	for name, call := range map[string]func(s api.Stack) (api.Stack, api.Errno){
		"Commit":           stack.Commit,
		"Write, in place":  func(s api.Stack) (api.Stack, api.Errno) { return stack.Write(s, 0, "wwww") },
		"Write, a hole":    func(s api.Stack) (api.Stack, api.Errno) { return stack.Write(s, 1, "wwww") },
		"Write, no table":  func(s api.Stack) (api.Stack, api.Errno) { return stack.Write(s, 7, "wwww") },
		"Write, an error":  func(s api.Stack) (api.Stack, api.Errno) { return stack.Write(s, 11, "wwww") },
		"Read, then Check": func(s api.Stack) (api.Stack, api.Errno) { stack.Read(s, 1); return api.Stack{}, stack.Check(s) },
	} {
		for _, start := range []func() api.Stack{sample, snapped} {
			s := roomySample(start())
			was := whole(s)
			x, e := call(s)
			y, f := call(s)
			if !reflect.DeepEqual(x, y) || e != f {
				t.Errorf("%s: %+v %d, then %+v %d", name, x, e, y, f)
			}
			spoil(t, x)
			if !reflect.DeepEqual(whole(s), was) {
				t.Errorf("%s: what was handed in is changed: %+v", name, s)
			}
			spoil(t, s)
			if z, _ := call(roomySample(start())); !reflect.DeepEqual(y, z) {
				t.Errorf("%s: a later change is seen: %+v, not %+v", name, y, z)
			}
		}
	}
}
