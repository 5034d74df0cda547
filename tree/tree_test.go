package tree_test

import (
	"math"
	"reflect"
	"slices"
	"strconv"
	"testing"

	"slipsheet/api"
	"slipsheet/tree"
)

func data(s string) api.Slot { return api.Slot{Kind: api.Data, Data: s} }
func table(t ...int) api.Slot {
	return api.Slot{Kind: api.Table, Table: t}
}

// sample: ten pages in three tables, the middle one not there; snapshots share the first table with the image, and have one of their own; slot 7 is free.
func sample() api.Image {
	return api.Image{
		Guest: 10, Root: []int{1, 0, 4},
		Slots: []api.Slot{{}, table(2, 0, -1, 3), data("aaaa"), data("bbbb"), table(5, 2, 0, 0), data("cccc"), table(3, 3, 5, 0), {}},
		Refs:  []int{0, 2, 2, 3, 1, 2, 1, 0},
		Snaps: []api.Snap{{Name: "new", Guest: 7, Root: []int{1, 6}}, {Name: "newer", Guest: 0}, {Name: "old", Guest: 8, Root: []int{0, 0}}},
	}
}

// blank: an image without slots that are used.
func blank(guest int, root ...int) api.Image {
	return api.Image{Guest: guest, Root: root, Slots: make([]api.Slot, 1), Refs: make([]int, 1)}
}

// turned: the sample, changed.
func turned(turns ...func(m *api.Image)) api.Image {
	m := sample()
	for _, turn := range turns {
		turn(&m)
	}
	return m
}

// TestE2Sample: the other tests lean on it.
func TestE2Sample(t *testing.T) {
	m := sample()
	if e := tree.Shape(m); e != api.OK {
		t.Errorf("Shape %d", e)
	}
	if l, e := tree.Counts(m); !slices.Equal(l, m.Refs) || e != api.OK {
		t.Errorf("Counts %v %d", l, e)
	}
	if e := tree.Check(m); e != api.OK {
		t.Errorf("Check %d", e)
	}
}

func TestE1Right(t *testing.T) {
	full := blank(16, 0, 0, 0, 0)
	full.Slots, full.Refs = make([]api.Slot, api.MaxSlots), make([]int, api.MaxSlots)
	last := blank(4, 39)
	last.Slots, last.Refs = make([]api.Slot, api.MaxSlots), make([]int, api.MaxSlots)
	last.Slots[39], last.Slots[38] = table(38, 38, 38, 38), data("last")
	for name, m := range map[string]api.Image{
		"nothing":                       blank(0),
		"empty lists":                   {Root: []int{}, Slots: []api.Slot{{Table: []int{}}}, Refs: []int{0}, Snaps: []api.Snap{}},
		"one page":                      blank(1, 0),
		"the most slots":                full,
		"the last slot":                 last,
		"a page behind its table":       turned(func(m *api.Image) { m.Root = []int{1, 1, 0} }),
		"counts are not asked for":      turned(func(m *api.Image) { m.Refs = []int{9, -1, math.MaxInt, math.MinInt, 0, 0, 0, 0} }),
		"an unused table":               turned(func(m *api.Image) { m.Root[2] = 0 }),
		"an unused page":                turned(func(m *api.Image) { m.Slots[7] = data("dddd") }),
		"a full last table":             turned(func(m *api.Image) { m.Guest = 12; m.Slots[4] = table(5, 2, -1, 5) }),
		"an unused table to its end":    turned(func(m *api.Image) { m.Slots[7] = table(5, 5, 5, 5) }),
		"a table in the middle, to end": turned(func(m *api.Image) { m.Root = []int{1, 6, 4}; m.Slots[6].Table = []int{3, 3, 5, 0} }),
		"names of 1 and 8 letters":      turned(func(m *api.Image) { m.Snaps[0].Name, m.Snaps[2].Name = "a", "zzzzzzzz" }),
		"no snapshots":                  turned(func(m *api.Image) { m.Snaps = nil }),
		"a name begins the next":        turned(func(m *api.Image) { m.Snaps[0].Name, m.Snaps[1].Name = "ne", "nea" }),
		"a snapshot of the most pages":  turned(func(m *api.Image) { m.Snaps[2] = api.Snap{Name: "old", Guest: 16, Root: []int{1, 1, 1, 1}} }),
		"one page is left":              turned(func(m *api.Image) { m.Guest = 9; m.Slots[4] = table(-1, 0, 0, 0) }),
		"three pages are left":          turned(func(m *api.Image) { m.Guest = 11; m.Slots[4] = table(0, 0, -1, 0) }),
	} {
		if e := tree.Shape(m); e != api.OK {
			t.Errorf("%s: Shape %d", name, e)
		}
	}
}

type wrong struct {
	name string
	want api.Errno
	turn func(m *api.Image)
}

// wrongs: what Shape refuses, each thing of an error as it stands in the promise.
func wrongs() []wrong {
	return slices.Concat(wrongMany(), wrongForm(), wrongRange(), wrongRoots())
}

func wrongMany() []wrong {
	return []wrong{
		{"no slots", api.ErrMany, func(m *api.Image) { m.Slots = nil }},
		{"no slots, a list of none", api.ErrMany, func(m *api.Image) { m.Slots = []api.Slot{} }},
		{"too many slots", api.ErrMany, func(m *api.Image) { m.Slots = make([]api.Slot, api.MaxSlots+1) }},
		{"too many snapshots", api.ErrMany, func(m *api.Image) {
			for len(m.Snaps) <= api.MaxSnaps {
				m.Snaps = append(m.Snaps, api.Snap{Name: "older"[:len(m.Snaps)+2]})
			}
		}},
	}
}

func wrongForm() []wrong {
	l := []wrong{
		{"no kind", api.ErrForm, func(m *api.Image) { m.Slots[7].Kind = 3 }},
		{"a kind less than 0", api.ErrForm, func(m *api.Image) { m.Slots[7].Kind = -1 }},
		{"a free slot with data", api.ErrForm, func(m *api.Image) { m.Slots[7].Data = "dddd" }},
		{"a short page", api.ErrForm, func(m *api.Image) { m.Slots[2].Data = "aaa" }},
		{"a long page", api.ErrForm, func(m *api.Image) { m.Slots[2].Data = "aaaaa" }},
		{"a page with a table", api.ErrForm, func(m *api.Image) { m.Slots[2].Table = []int{2, 0, 0, 0} }},
		{"a bare table", api.ErrForm, func(m *api.Image) { m.Slots[1] = table(0, 0, 0, 0) }},
		{"a short table", api.ErrForm, func(m *api.Image) { m.Slots[1] = table(2, 0, -1) }},
		{"a long table", api.ErrForm, func(m *api.Image) { m.Slots[1] = table(2, 0, -1, 3, 0) }},
		{"a table with data", api.ErrForm, func(m *api.Image) { m.Slots[1].Data = "aaaa" }},
		{"the first slot is used", api.ErrForm, func(m *api.Image) { m.Slots[0] = data("aaaa") }},
		{"the first slot is a table", api.ErrForm, func(m *api.Image) { m.Slots[0] = table(2, 0, 0, 0) }},
		{"no Refs", api.ErrForm, func(m *api.Image) { m.Refs = nil }},
		{"one Ref too few", api.ErrForm, func(m *api.Image) { m.Refs = m.Refs[:7] }},
		{"one Ref too many", api.ErrForm, func(m *api.Image) { m.Refs = append(m.Refs, 0) }},
		{"names are the same", api.ErrForm, func(m *api.Image) { m.Snaps[1].Name = "new" }},
		{"names fall", api.ErrForm, func(m *api.Image) { m.Snaps[0].Name = "newest" }},
		{"the last name falls", api.ErrForm, func(m *api.Image) { m.Snaps[2].Name = "neweq" }},
		{"a name is less than what it begins", api.ErrForm, func(m *api.Image) { m.Snaps[0].Name, m.Snaps[1].Name = "newer", "new" }},
	}
	for _, s := range []string{"", "Old", "ol`", "ol{", "o d", "o1", "old\x00", "old\n", "\xff", "é", "o\u0131d", "ooooooooo"} {
		l = append(l, wrong{"the name " + strconv.Quote(s), api.ErrForm, func(m *api.Image) { m.Snaps = []api.Snap{{Name: s}} }})
	}
	return append(l, wrong{"the last name is none", api.ErrForm, func(m *api.Image) { m.Snaps[2].Name = "zz-" }})
}

func wrongRange() []wrong {
	var l []wrong
	for _, n := range []int{-1, -4, api.MaxGuest + 1, math.MinInt, math.MaxInt} {
		l = append(l, wrong{"Guest of the image", api.ErrRange, func(m *api.Image) { m.Guest = n }})
		for i := range 3 {
			l = append(l, wrong{"Guest of a snapshot", api.ErrRange, func(m *api.Image) { m.Snaps[i].Guest = n }})
		}
	}
	return append(l,
		wrong{"Guest is less than 0, Root is of none", api.ErrRange, func(m *api.Image) { m.Guest, m.Root = -1, nil }},
		wrong{"Guest is too much, Root as it wants", api.ErrRange, func(m *api.Image) { m.Guest, m.Root = 17, make([]int, 5) }},
	)
}

func wrongRoots() []wrong {
	l := []wrong{
		{"Root is too short", api.ErrForm, func(m *api.Image) { m.Root = []int{1, 0} }},
		{"Root is too long", api.ErrForm, func(m *api.Image) { m.Root = []int{1, 0, 4, 0} }},
		{"no Root", api.ErrForm, func(m *api.Image) { m.Root = nil }},
		{"a Root of no pages", api.ErrForm, func(m *api.Image) { m.Guest, m.Root = 0, []int{0} }},
		{"Guest wants one entry less", api.ErrForm, func(m *api.Image) { m.Guest = 8 }},
		{"Guest wants one entry more", api.ErrForm, func(m *api.Image) { m.Guest = 13 }},
		{"a snapshot's Root is too short", api.ErrForm, func(m *api.Image) { m.Snaps[0].Root = []int{1} }},
		{"a snapshot's Root is too long", api.ErrForm, func(m *api.Image) { m.Snaps[1].Root = []int{0} }},
		{"the last snapshot's Root is too long", api.ErrForm, func(m *api.Image) { m.Snaps[2].Root = []int{0, 0, 0} }},
		{"a table tells itself", api.ErrForm, func(m *api.Image) { m.Slots[1].Table[0] = 1 }},
		{"a table tells a table", api.ErrForm, func(m *api.Image) { m.Slots[1].Table[1] = 4 }},
		{"a table tells a free slot", api.ErrForm, func(m *api.Image) { m.Slots[1].Table[1] = 7 }},
		{"a table tells what is not there", api.ErrForm, func(m *api.Image) { m.Slots[1].Table[3] = 8 }},
		{"a table tells the most", api.ErrForm, func(m *api.Image) { m.Slots[1].Table[3] = api.MaxSlots - 1 }},
		{"a table that nothing tells, tells a table", api.ErrForm, func(m *api.Image) { m.Slots[7] = table(0, 0, 0, 1) }},
		{"a table that nothing tells, tells what is not there", api.ErrForm, func(m *api.Image) { m.Slots[7] = table(8, 0, 0, 0) }},
		{"behind the last page", api.ErrForm, func(m *api.Image) { m.Slots[4].Table[2] = 5 }},
		{"blank behind the last page", api.ErrForm, func(m *api.Image) { m.Slots[4].Table[2] = -1 }},
		{"last of the table, behind the last page", api.ErrForm, func(m *api.Image) { m.Slots[4].Table[3] = 2 }},
		{"Guest is less by one page", api.ErrForm, func(m *api.Image) { m.Guest = 9 }},
		{"behind a snapshot's last page", api.ErrForm, func(m *api.Image) { m.Slots[6].Table[3] = 3 }},
		{"blank behind a snapshot's last page", api.ErrForm, func(m *api.Image) { m.Slots[6].Table[3] = -1 }},
		{"a shared table is another one's last", api.ErrForm, func(m *api.Image) { m.Snaps[2].Guest, m.Snaps[2].Root = 3, []int{1} }},
	}
	for _, k := range []int{2, 7, 8, api.MaxSlots, -1, -2, math.MinInt, math.MaxInt} {
		l = append(l,
			wrong{"Root tells no table first", api.ErrForm, func(m *api.Image) { m.Root[0] = k }},
			wrong{"Root tells no table last", api.ErrForm, func(m *api.Image) { m.Root[2] = k }},
			wrong{"a snapshot's Root tells no table", api.ErrForm, func(m *api.Image) { m.Snaps[0].Root[1] = k }},
			wrong{"the last snapshot's Root tells no table", api.ErrForm, func(m *api.Image) { m.Snaps[2].Root[0] = k }},
		)
	}
	return l
}

// refused: each call answers that error, and nothing else.
func refused(t *testing.T, name string, m api.Image, want api.Errno) {
	t.Helper()
	if e := tree.Shape(m); e != want {
		t.Errorf("%s: Shape %d, not %d", name, e, want)
	}
	if l, e := tree.Counts(m); len(l) != 0 || e != want {
		t.Errorf("%s: Counts %v %d, not %d", name, l, e, want)
	}
	if e := tree.Check(m); e != want {
		t.Errorf("%s: Check %d, not %d", name, e, want)
	}
	for _, n := range []int{-1, 0, 99} {
		if k, e := tree.Look(m, n); k != 0 || e != want {
			t.Errorf("%s: Look %d %d, not %d", name, k, e, want)
		}
	}
}

func TestE1Wrong(t *testing.T) {
	for _, w := range wrongs() {
		refused(t, w.name, turned(w.turn), w.want)
	}
	refused(t, "nothing at all", api.Image{}, api.ErrMany)
	refused(t, "too few tables for the most pages", blank(16, 0, 0, 0), api.ErrForm)
	refused(t, "slot 0 told by a Root", blank(4, -1), api.ErrForm)
}

// TestE1Order: of two things that are wrong, the one that the promise names first is told.
func TestE1Order(t *testing.T) {
	groups := [][]wrong{wrongMany(), wrongForm(), wrongRange(), wrongRoots()}
	for i, first := range groups {
		for _, later := range groups[i+1:] {
			for _, a := range first {
				for _, b := range later {
					refused(t, a.name+", and "+b.name, turned(b.turn, a.turn), a.want)
				}
			}
		}
	}
}

func TestE1ManyAhead(t *testing.T) {
	m := turned(func(m *api.Image) {
		m.Slots[0].Kind = 5
		m.Snaps = make([]api.Snap, 4)
	})
	refused(t, "too many snapshots ahead of a wrong slot", m, api.ErrMany)
	m = turned(func(m *api.Image) {
		m.Slots = slices.Repeat([]api.Slot{{Kind: 7}}, 41)
		m.Guest = 99
	})
	refused(t, "too many slots ahead of wrong ones", m, api.ErrMany)
}

func TestE2Counts(t *testing.T) {
	for _, c := range []struct {
		name string
		m    api.Image
		want []int
	}{
		{"no slots used", blank(16, 0, 0, 0, 0), []int{0}},
		{"a table told twice by one Root", turned(func(m *api.Image) { m.Root = []int{1, 1, 4} }), []int{0, 3, 2, 3, 1, 2, 1, 0}},
		{"a table told by all", turned(func(m *api.Image) { m.Snaps[2].Root[1] = 1; m.Snaps[0].Root[1] = 0 }), []int{0, 3, 2, 1, 1, 1, 0, 0}},
		{"a page told twice by one table", turned(func(m *api.Image) { m.Slots[1].Table[1] = 2 }), []int{0, 2, 3, 3, 1, 2, 1, 0}},
		{"a table that nothing tells", turned(func(m *api.Image) { m.Root[2] = 0 }), []int{0, 2, 1, 3, 0, 1, 1, 0}},
		{"a table of a snapshot is told no more", turned(func(m *api.Image) { m.Snaps = m.Snaps[1:] }), []int{0, 1, 2, 1, 1, 1, 0, 0}},
		{"a page that nothing tells", turned(func(m *api.Image) { m.Slots[7] = data("dddd") }), []int{0, 2, 2, 3, 1, 2, 1, 0}},
		{"Refs are not asked", turned(func(m *api.Image) { m.Refs = make([]int, 8) }), []int{0, 2, 2, 3, 1, 2, 1, 0}},
		{"only a snapshot tells", turned(func(m *api.Image) { m.Guest, m.Root = 0, nil }), []int{0, 1, 1, 3, 0, 1, 1, 0}},
	} {
		if l, e := tree.Counts(c.m); !slices.Equal(l, c.want) || e != api.OK {
			t.Errorf("%s: %v %d, not %v", c.name, l, e, c.want)
		}
	}
}

func TestE2Check(t *testing.T) {
	for i := range sample().Slots {
		for _, d := range []int{1, -1, math.MaxInt, math.MinInt} {
			m := turned(func(m *api.Image) { m.Refs[i] += d })
			if e := tree.Check(m); e != api.ErrRefs {
				t.Errorf("Refs of slot %d changed by %d: %d", i, d, e)
			}
		}
	}
	for _, c := range []struct {
		name string
		turn func(m *api.Image)
		want api.Errno
	}{
		{"a page is not told, and 0", func(m *api.Image) { m.Slots[7] = data("dddd") }, api.ErrRefs},
		{"a page is not told, and 1", func(m *api.Image) { m.Slots[7], m.Refs[7] = data("dddd"), 1 }, api.ErrRefs},
		{"a table is not told, and 0", func(m *api.Image) { m.Slots[7] = table(2, 0, 0, 0) }, api.ErrRefs},
		{"a table of blanks is not told, and 0", func(m *api.Image) { m.Slots[7] = table(-1, 0, 0, 0) }, api.ErrRefs},
		{"a table is told no more", func(m *api.Image) { m.Root[2] = 0 }, api.ErrRefs},
		{"a table is told no more, and 0", func(m *api.Image) { m.Root[2], m.Refs = 0, []int{0, 2, 1, 3, 0, 1, 1, 0} }, api.ErrRefs},
		{"counts of tables that are not told", func(m *api.Image) { m.Root[2], m.Refs = 0, []int{0, 2, 2, 3, 0, 2, 1, 0} }, api.ErrRefs},
		{"a table told once more", func(m *api.Image) { m.Root[1] = 1 }, api.ErrRefs},
		{"a table told once more, counted", func(m *api.Image) { m.Root[1] = 1; m.Refs[1] = 3 }, api.OK},
		{"its pages counted once more too", func(m *api.Image) { m.Root[1] = 1; m.Refs = []int{0, 3, 3, 4, 1, 2, 1, 0} }, api.ErrRefs},
		{"the free slot is used", func(m *api.Image) { m.Slots[7], m.Refs[7], m.Root[1] = table(-1, -1, -1, -1), 1, 7 }, api.OK},
		{"no free slot behind", func(m *api.Image) { m.Slots, m.Refs = m.Slots[:7], m.Refs[:7] }, api.OK},
	} {
		if e := tree.Check(turned(c.turn)); e != c.want {
			t.Errorf("%s: %d, not %d", c.name, e, c.want)
		}
	}
	if e := tree.Check(blank(0)); e != api.OK {
		t.Errorf("nothing: %d", e)
	}
}

func TestE3Look(t *testing.T) {
	for n, want := range []int{2, api.Hole, api.Blank, 3, api.Hole, api.Hole, api.Hole, api.Hole, 5, 2} {
		if k, e := tree.Look(sample(), n); k != want || e != api.OK {
			t.Errorf("page %d: %d %d, not %d", n, k, e, want)
		}
	}
	for _, n := range []int{-1, -4, 10, 11, 12, 16, math.MinInt, math.MaxInt} {
		if k, e := tree.Look(sample(), n); k != 0 || e != api.ErrRange {
			t.Errorf("page %d: %d %d", n, k, e)
		}
	}
	for _, n := range []int{-1, 0, 1} {
		if k, e := tree.Look(blank(0), n); k != 0 || e != api.ErrRange {
			t.Errorf("of no pages, page %d: %d %d", n, k, e)
		}
	}
	if k, e := tree.Look(blank(16, 0, 0, 0, 0), 15); k != api.Hole || e != api.OK {
		t.Errorf("the last page of the most: %d %d", k, e)
	}
}

func TestE3Order(t *testing.T) {
	m := turned(func(m *api.Image) { m.Refs[1] = 1 })
	for _, n := range []int{-1, 0, 10} {
		if k, e := tree.Look(m, n); k != 0 || e != api.ErrRefs {
			t.Errorf("page %d: %d %d", n, k, e)
		}
	}
}

// roomy: a copy of l with spare room behind it, which holds fill.
func roomy[T any](l []T, fill T) []T {
	return append(slices.Clone(l), fill, fill)[:len(l)]
}

// roomySample: the sample, in which each list has spare room.
func roomySample() api.Image {
	m := sample()
	m.Root, m.Refs = roomy(m.Root, 77), roomy(m.Refs, 77)
	for i, s := range m.Slots {
		m.Slots[i].Table = roomy(s.Table, 77)
	}
	for i, s := range m.Snaps {
		m.Snaps[i].Root = roomy(s.Root, 77)
	}
	m.Slots, m.Snaps = roomy(m.Slots, data("room")), roomy(m.Snaps, api.Snap{Name: "room"})
	return m
}

func TestP2OnlyRead(t *testing.T) {
	m := roomySample()
	m.Refs[1] = 9
	tree.Check(m)
	m.Refs[1] = 2
	tree.Shape(m)
	tree.Counts(m)
	tree.Check(m)
	for n := range 12 {
		tree.Look(m, n)
	}
	if was := roomySample(); !sameRoom(m, was) {
		t.Errorf("changed: %+v", m)
	}
}

// sameRoom: are the images the same, as far as the lists go and two elements behind?
func sameRoom(a, b api.Image) bool {
	two := func(m api.Image) api.Image {
		m.Root, m.Refs = m.Root[:len(m.Root)+2], m.Refs[:len(m.Refs)+2]
		m.Slots, m.Snaps = slices.Clone(m.Slots[:len(m.Slots)+2]), slices.Clone(m.Snaps[:len(m.Snaps)+2])
		for i, s := range m.Slots[:len(m.Slots)-2] {
			m.Slots[i].Table = s.Table[:len(s.Table)+2]
		}
		for i, s := range m.Snaps[:len(m.Snaps)-2] {
			m.Snaps[i].Root = s.Root[:len(s.Root)+2]
		}
		return m
	}
	return reflect.DeepEqual(two(a), two(b))
}

func TestP2NewMemory(t *testing.T) {
	m := sample()
	l, _ := tree.Counts(m)
	k, _ := tree.Counts(m)
	for i := range l {
		l[i] = 99
	}
	if !reflect.DeepEqual(m, sample()) || !slices.Equal(k, m.Refs) {
		t.Errorf("an answer shares memory: %v %v", m, k)
	}
}

// TestP1Ends: lists much longer than there may be are refused as soon as any.
func TestP1Ends(t *testing.T) {
	refused(t, "many slots", turned(func(m *api.Image) { m.Slots = make([]api.Slot, 1<<16) }), api.ErrMany)
	refused(t, "many snapshots", turned(func(m *api.Image) { m.Snaps = make([]api.Snap, 1<<16) }), api.ErrMany)
	refused(t, "many Refs", turned(func(m *api.Image) { m.Refs = make([]int, 1<<16) }), api.ErrForm)
	refused(t, "a long Root", turned(func(m *api.Image) { m.Root = make([]int, 1<<16) }), api.ErrForm)
	refused(t, "a long table", turned(func(m *api.Image) { m.Slots[1].Table = make([]int, 1<<16) }), api.ErrForm)
}

// draw: numbers, the same each time.
type draw uint64

func (d *draw) n(n int) int {
	*d = *d*6364136223846793005 + 1442695040888963407
	return int(uint64(*d) >> 33 % uint64(n))
}

func (d *draw) list(n, least, most int) []int {
	l := make([]int, d.n(n+1))
	for i := range l {
		l[i] = least + d.n(most-least+1)
	}
	return l
}

// junk: an image near to being right, or not.
func (d *draw) junk() api.Image {
	m := api.Image{Guest: d.n(20) - 2, Root: d.list(5, -1, 6), Refs: d.list(6, -1, 3)}
	for range d.n(7) {
		s := api.Slot{Kind: d.n(4)}
		switch s.Kind {
		case api.Data:
			s.Data = "pages"[:4+d.n(50)/49]
		case api.Table:
			s.Table = append(d.list(1, -1, 3), d.list(4, -1, 6)...)
		}
		m.Slots = append(m.Slots, s)
	}
	for i := range d.n(4) {
		m.Snaps = append(m.Snaps, api.Snap{Name: "abcd"[i : i+d.n(2)], Guest: d.n(20) - 2, Root: d.list(5, -1, 6)})
	}
	return m
}

func TestP1Junk(t *testing.T) {
	d := draw(5)
	for range 20000 {
		m := d.junk()
		e := tree.Shape(m)
		if e != api.OK {
			refused(t, "junk", m, e)
			continue
		}
		l, e := tree.Counts(m)
		if len(l) != len(m.Slots) || e != api.OK {
			t.Errorf("%+v: Counts %v %d", m, l, e)
		}
		if e := tree.Check(m); e != api.OK && e != api.ErrRefs {
			t.Errorf("%+v: Check %d", m, e)
		}
	}
}

// shared: a right image of the most pages whose tables and pages are told at random; and Refs, each told thing noted one by one.
func (d *draw) shared() api.Image {
	const tables, pages = 5, 8
	m := api.Image{Guest: 16, Slots: make([]api.Slot, 1+tables+pages), Refs: make([]int, 1+tables+pages)}
	for i := range tables {
		m.Slots[1+i] = table(d.n(pages)+1+tables, d.n(2)-1, d.n(pages)+1+tables, 1+tables)
	}
	for i := range pages {
		m.Slots[1+tables+i] = data("page")
	}
	m.Root = []int{d.n(tables + 1), d.n(tables + 1), d.n(tables + 1), d.n(tables + 1)}
	told := slices.Clone(m.Root)
	for i := range 3 {
		r := []int{d.n(tables + 1), d.n(tables + 1)}
		m.Snaps = append(m.Snaps, api.Snap{Name: "abc"[:i+1], Guest: 8, Root: r})
		told = append(told, r...)
	}
	for k := 1; k <= tables; k++ {
		for _, r := range told {
			if r == k {
				m.Refs[k]++
			}
		}
		for _, p := range m.Slots[k].Table {
			if p > 0 && m.Refs[k] > 0 {
				m.Refs[p]++
			}
		}
	}
	for k, n := range m.Refs {
		if n == 0 {
			m.Slots[k] = api.Slot{}
		}
	}
	return m
}

func TestE2Drawn(t *testing.T) {
	d := draw(1)
	for range 300 {
		m := d.shared()
		if l, e := tree.Counts(m); !slices.Equal(l, m.Refs) || e != api.OK {
			t.Errorf("%+v: Counts %v %d", m, l, e)
		}
		if e := tree.Check(m); e != api.OK {
			t.Errorf("%+v: Check %d", m, e)
		}
	}
}
