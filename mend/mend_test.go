package mend_test

import (
	"math"
	"reflect"
	"slices"
	"testing"

	"slipsheet/api"
	"slipsheet/mend"
	"slipsheet/reads"
	"slipsheet/slots"
	"slipsheet/tree"
)

func data(s string) api.Slot { return api.Slot{Kind: api.Data, Data: s} }
func table(t ...int) api.Slot {
	return api.Slot{Kind: api.Table, Table: t}
}

// sample: ten pages in two tables, with none between; the first one is a snapshot's too, which has one of its own; slot 7 is free.
func sample() api.Image {
	return api.Image{
		Guest: 10, Root: []int{1, 0, 4},
		Slots: []api.Slot{{}, table(2, 0, -1, 3), data("aaaa"), data("bbbb"), table(5, 2, 0, 0), data("cccc"), table(3, 3, 5, 0), {}},
		Refs:  []int{0, 2, 2, 3, 1, 2, 1, 0},
		Snaps: []api.Snap{{Name: "new", Guest: 7, Root: []int{1, 6}}, {Name: "newer", Guest: 0}, {Name: "old", Guest: 8, Root: []int{0, 0}}},
	}
}

type turn func(m *api.Image)

// turned: the sample, changed.
func turned(turns ...turn) api.Image {
	m := sample()
	for _, turn := range turns {
		turn(&m)
	}
	return m
}

type spoilt struct {
	name  string
	leaks int
	turn  turn // what is done to the sample
	mend  turn // what is then done to it by Repair
}

func refsAre(l ...int) turn { return func(m *api.Image) { m.Refs = l } }

// frees: these slots are free, and these are the counts.
func frees(l []int, refs ...int) turn {
	return func(m *api.Image) {
		for _, k := range l {
			m.Slots[k] = api.Slot{}
		}
		m.Refs = refs
	}
}

// spoils: images that have the form, most of which are not right.
func spoils() []spoilt {
	right := refsAre(0, 2, 2, 3, 1, 2, 1, 0)
	return []spoilt{
		{"right", 0, func(m *api.Image) {}, func(m *api.Image) {}},
		{"counts too great", 0, refsAre(1, 3, 3, 4, 2, 3, 2, 1), right},
		{"counts too small", 0, refsAre(-1, 1, 1, 2, 0, 1, 0, -1), right},
		{"counts at the bounds", 0, refsAre(math.MinInt, math.MaxInt, math.MinInt, 0, 0, 0, 0, math.MaxInt), right},
		{"no counts", 0, refsAre(0, 0, 0, 0, 0, 0, 0, 0), right},
		{"a page that nothing tells", 1, func(m *api.Image) { m.Slots[7] = data("dddd") }, frees([]int{7}, 0, 2, 2, 3, 1, 2, 1, 0)},
		{"a page that nothing tells, counted", 1, func(m *api.Image) { m.Slots[7], m.Refs[7] = data("dddd"), 1 }, frees([]int{7}, 0, 2, 2, 3, 1, 2, 1, 0)},
		{"a table that nothing tells", 1, func(m *api.Image) { m.Slots[7] = table(2, 2, 3, -1) }, frees([]int{7}, 0, 2, 2, 3, 1, 2, 1, 0)},
		{"a table of blanks that nothing tells", 1, func(m *api.Image) { m.Slots[7], m.Refs[7] = table(-1, 0, 0, -1), 1 }, frees([]int{7}, 0, 2, 2, 3, 1, 2, 1, 0)},
		{"a table, whose pages are told else", 1, func(m *api.Image) { m.Root[2] = 0 }, frees([]int{4}, 0, 2, 1, 3, 0, 1, 1, 0)},
		{"a snapshot's table, whose pages are told else", 1, func(m *api.Image) { m.Snaps[0].Root[1] = 0 }, frees([]int{6}, 0, 2, 2, 1, 1, 1, 0, 0)},
		{"a table that a snapshot still tells", 0, func(m *api.Image) { m.Root[0] = 0 }, refsAre(0, 1, 2, 3, 1, 2, 1, 0)},
		{"a table, and a page of its own", 2, func(m *api.Image) { m.Snaps[0].Root[1], m.Slots[4].Table[0] = 0, -1 }, frees([]int{5, 6}, 0, 2, 2, 1, 1, 0, 0, 0)},
		{"a page behind, told by a table that nothing tells", 2, func(m *api.Image) { m.Slots[7] = data("dddd"); m.Snaps[0].Root[1] = 0; m.Slots[6].Table[3] = 7 }, frees([]int{6, 7}, 0, 2, 2, 1, 1, 1, 0, 0)},
		{"no snapshots", 1, func(m *api.Image) { m.Snaps = nil }, frees([]int{6}, 0, 1, 2, 1, 1, 1, 0, 0)},
		{"no pages", 3, func(m *api.Image) { m.Guest, m.Root, m.Snaps[0].Root[0] = 0, nil, 0 }, frees([]int{1, 2, 4}, 0, 0, 0, 2, 0, 1, 1, 0)},
		{"nothing at all is told", 6, func(m *api.Image) { m.Guest, m.Root, m.Snaps = 0, nil, nil }, frees([]int{1, 2, 3, 4, 5, 6}, 0, 0, 0, 0, 0, 0, 0, 0)},
		{"a table told twice by one Root", 0, func(m *api.Image) { m.Root = []int{1, 1, 4} }, refsAre(0, 3, 2, 3, 1, 2, 1, 0)},
		{"a page more", 0, func(m *api.Image) { m.Slots[1].Table[1] = 5 }, refsAre(0, 2, 2, 3, 1, 3, 1, 0)},
	}
}

func TestI1Leaks(t *testing.T) {
	for _, c := range spoils() {
		if n, e := mend.Leaks(turned(c.turn)); n != c.leaks || e != api.OK {
			t.Errorf("%s: %d %d, not %d", c.name, n, e, c.leaks)
		}
	}
}

func TestI1Repair(t *testing.T) {
	for _, c := range spoils() {
		want := turned(c.turn, c.mend)
		if e := tree.Check(want); e != api.OK {
			t.Errorf("%s: what is wanted is not right: %d", c.name, e)
		}
		m, e := mend.Repair(turned(c.turn))
		if e != api.OK || !reflect.DeepEqual(m, want) {
			t.Errorf("%s: %+v %d, not %+v", c.name, m, e, want)
		}
	}
}

// TestI1Edges: the fewest and the most slots.
func TestI1Edges(t *testing.T) {
	one := api.Image{Slots: make([]api.Slot, 1), Refs: []int{7}}
	if n, e := mend.Leaks(one); n != 0 || e != api.OK {
		t.Errorf("one slot: %d %d", n, e)
	}
	if m, e := mend.Repair(one); e != api.OK || !slices.Equal(m.Refs, []int{0}) || tree.Check(m) != api.OK {
		t.Errorf("one slot: %+v %d", m, e)
	}
	most := api.Image{Slots: slices.Repeat([]api.Slot{data("leak")}, api.MaxSlots), Refs: make([]int, api.MaxSlots)}
	most.Slots[0] = api.Slot{}
	if n, e := mend.Leaks(most); n != api.MaxSlots-1 || e != api.OK {
		t.Errorf("the most slots: %d %d", n, e)
	}
	m, e := mend.Repair(most)
	if used, _ := slots.Used(m.Slots); used != 0 || e != api.OK || len(m.Slots) != api.MaxSlots || tree.Check(m) != api.OK {
		t.Errorf("the most slots: %+v %d", m, e)
	}
}

func TestI1Wrong(t *testing.T) {
	for _, c := range []struct {
		want api.Errno
		turn turn
	}{
		{api.ErrMany, func(m *api.Image) { *m = api.Image{} }},
		{api.ErrMany, func(m *api.Image) { m.Slots = nil }},
		{api.ErrMany, func(m *api.Image) { m.Slots = make([]api.Slot, 41) }},
		{api.ErrMany, func(m *api.Image) { m.Snaps = make([]api.Snap, 4) }},
		{api.ErrMany, func(m *api.Image) { m.Snaps = make([]api.Snap, 4); m.Guest = -1; m.Slots[1].Kind = 3 }},
		{api.ErrForm, func(m *api.Image) { m.Slots[0] = data("zero") }},
		{api.ErrForm, func(m *api.Image) { m.Slots[7] = data("dat") }},
		{api.ErrForm, func(m *api.Image) { m.Slots[7] = table(0, 0, 0, 0) }},
		{api.ErrForm, func(m *api.Image) { m.Slots[7] = table(7, 0, 0, 0) }},
		{api.ErrForm, func(m *api.Image) { m.Slots[7] = table(1, 0, 0, 0) }},
		{api.ErrForm, func(m *api.Image) { m.Slots[5] = api.Slot{} }},
		{api.ErrForm, func(m *api.Image) { m.Refs = m.Refs[:7] }},
		{api.ErrForm, func(m *api.Image) { m.Snaps[0].Name, m.Guest = "New", -1 }},
		{api.ErrForm, func(m *api.Image) { m.Snaps[1].Name = "new" }},
		{api.ErrForm, func(m *api.Image) { m.Snaps[2].Root = nil }},
		{api.ErrForm, func(m *api.Image) { m.Root = []int{1, 0} }},
		{api.ErrForm, func(m *api.Image) { m.Root[1] = 2 }},
		{api.ErrForm, func(m *api.Image) { m.Root[1] = 7 }},
		{api.ErrForm, func(m *api.Image) { m.Root[1] = 8 }},
		{api.ErrForm, func(m *api.Image) { m.Root[1] = -1 }},
		{api.ErrForm, func(m *api.Image) { m.Guest = 9 }},
		{api.ErrRange, func(m *api.Image) { m.Guest = math.MaxInt }},
		{api.ErrRange, func(m *api.Image) { m.Guest = -1; m.Root = nil }},
		{api.ErrRange, func(m *api.Image) { m.Snaps[2].Guest = 17 }},
	} {
		m := turned(c.turn)
		if n, e := mend.Leaks(m); n != 0 || e != c.want {
			t.Errorf("%+v: Leaks %d %d, not %d", m, n, e, c.want)
		}
		if x, e := mend.Repair(m); !reflect.DeepEqual(x, api.Image{}) || e != c.want {
			t.Errorf("%+v: Repair %+v %d, not %d", m, x, e, c.want)
		}
	}
}

// draw: numbers, the same each time.
type draw uint64

func (d *draw) n(n int) int {
	*d = *d*6364136223846793005 + 1442695040888963407
	return int(uint64(*d) >> 33 % uint64(n))
}

// image: one that has the form, whose slots are told at random, whose counts are anything.
func (d *draw) image() api.Image {
	const tables, pages = 6, 9
	m := api.Image{Guest: 16, Slots: make([]api.Slot, 1)}
	for range tables {
		m.Slots = append(m.Slots, table(d.n(pages)+1+tables, d.n(2)-1, d.n(pages)+1+tables, 1+tables))
	}
	for i := range pages {
		m.Slots = append(m.Slots, data("abcdefghijkl"[i:][:4]))
	}
	m.Slots = append(m.Slots, make([]api.Slot, d.n(3))...)
	root := func() int { return d.n(tables + 1) }
	m.Root = []int{root(), root(), root(), root()}
	for i := range d.n(4) {
		m.Snaps = append(m.Snaps, api.Snap{Name: "abc"[:i+1], Guest: 8, Root: []int{root(), root()}})
	}
	for range m.Slots {
		m.Refs = append(m.Refs, d.n(5)-1)
	}
	return m
}

// told: the pages that a Root tells, looked up without asking whether the image is right.
func told(m api.Image, root []int, guest int) []string {
	var l []string
	for n := range guest {
		p, k := "\x00\x00\x00\x00", 0
		if t := root[n/4]; t != 0 {
			k = m.Slots[t].Table[n%4]
		}
		if k > 0 {
			p = m.Slots[k].Data
		}
		l = append(l, p)
	}
	return l
}

// TestI2Drawn: what is repaired is right, and reads as what it tells.
func TestI2Drawn(t *testing.T) {
	d := draw(3)
	some := 0
	for range 3000 {
		m := d.image()
		leaks, _ := mend.Leaks(m)
		x, e := mend.Repair(m)
		if e != api.OK || tree.Check(x) != api.OK || len(x.Slots) != len(m.Slots) {
			t.Fatalf("%+v %d, of %+v", x, e, m)
		}
		before, _ := slots.Used(m.Slots)
		if after, _ := slots.Used(x.Slots); before-after != leaks {
			t.Fatalf("%d slots used, %d ahead, %d leaks, of %+v", after, before, leaks, m)
		}
		if n, e := mend.Leaks(x); n != 0 || e != api.OK {
			t.Fatalf("still %d leaks, %d, of %+v", n, e, m)
		}
		if l, _ := reads.All(x); !slices.Equal(l, told(m, m.Root, m.Guest)) {
			t.Fatalf("%q, of %+v", l, m)
		}
		for _, s := range m.Snaps {
			if l, _ := reads.Past(x, s.Name); !slices.Equal(l, told(m, s.Root, s.Guest)) {
				t.Fatalf("%s: %q, of %+v", s.Name, l, m)
			}
		}
		if y, e := mend.Repair(x); e != api.OK || !reflect.DeepEqual(x, y) {
			t.Fatalf("what is right does not stay: %+v %d, not %+v", y, e, x)
		}
		some += min(leaks, 1)
	}
	if some < 100 {
		t.Errorf("only %d images leak", some)
	}
}

// roomy: a copy of l with spare room behind it, which holds fill.
func roomy[T any](l []T, fill T) []T {
	return append(slices.Clone(l), fill, fill)[:len(l)]
}

// roomySample: the sample, changed, in which each list has spare room.
func roomySample(turns ...turn) api.Image {
	m := turned(turns...)
	m.Root, m.Refs = roomy(m.Root, 77), roomy(m.Refs, 77)
	for i, s := range m.Slots {
		m.Slots[i].Table = roomy(s.Table, 77)
	}
	for i, s := range m.Snaps {
		m.Snaps[i].Root = roomy(s.Root, 77)
	}
	m.Slots, m.Snaps = roomy(m.Slots, data("room")), roomy(m.Snaps, api.Snap{Name: "room"})
	return m
}

// whole: the image with all the room of its lists, deeply copied.
func whole(m api.Image) api.Image {
	m.Root, m.Refs = slices.Clone(m.Root[:cap(m.Root)]), slices.Clone(m.Refs[:cap(m.Refs)])
	m.Slots, m.Snaps = slices.Clone(m.Slots[:cap(m.Slots)]), slices.Clone(m.Snaps[:cap(m.Snaps)])
	for i, s := range m.Slots {
		m.Slots[i].Table = slices.Clone(s.Table[:cap(s.Table)])
	}
	for i, s := range m.Snaps {
		m.Snaps[i].Root = slices.Clone(s.Root[:cap(s.Root)])
	}
	return m
}

// spoil: each number of each list gets that of its list; then each list must have its own.
func spoil(t *testing.T, m api.Image) {
	t.Helper()
	m.Slots, m.Snaps = m.Slots[:cap(m.Slots)], m.Snaps[:cap(m.Snaps)]
	lists := [][]int{m.Root[:cap(m.Root)], m.Refs[:cap(m.Refs)]}
	for i, s := range m.Slots {
		lists = append(lists, s.Table[:cap(s.Table)])
		m.Slots[i].Data = "mine"
	}
	for i, s := range m.Snaps {
		lists = append(lists, s.Root[:cap(s.Root)])
		m.Snaps[i].Name = "mine"
	}
	for i, l := range lists {
		for k := range l {
			l[k] = 1000 + i
		}
	}
	for i, l := range lists {
		if slices.ContainsFunc(l, func(k int) bool { return k != 1000+i }) {
			t.Errorf("two lists share memory: %v", lists)
		}
	}
}

// TestP2: also of an image that is right, which stays as it is.
func TestP2(t *testing.T) {
	for _, c := range spoils() {
		m := roomySample(c.turn)
		was := whole(m)
		mend.Leaks(m)
		x, _ := mend.Repair(m)
		y, _ := mend.Repair(m)
		if !reflect.DeepEqual(x, y) {
			t.Errorf("%s: %+v, then %+v", c.name, x, y)
		}
		spoil(t, x)
		if !reflect.DeepEqual(whole(m), was) {
			t.Errorf("%s: what was handed in is changed: %+v", c.name, m)
		}
		spoil(t, m)
		if z, _ := mend.Repair(roomySample(c.turn)); !reflect.DeepEqual(y, z) {
			t.Errorf("%s: a later change is seen: %+v, not %+v", c.name, y, z)
		}
	}
}
