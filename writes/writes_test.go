package writes_test

import (
	"math"
	"reflect"
	"slices"
	"testing"

	"slipsheet/api"
	"slipsheet/reads"
	"slipsheet/slots"
	"slipsheet/snaps"
	"slipsheet/tree"
	"slipsheet/writes"
)

const zero = "\x00\x00\x00\x00"

func data(s string) api.Slot { return api.Slot{Kind: api.Data, Data: s} }
func table(t ...int) api.Slot {
	return api.Slot{Kind: api.Table, Table: t}
}

// sample: fourteen pages. The first table is a snapshot's too; there is no second one; the third one is the image's own, page 8 is its own, page 9 is told by another table too; the last one has one page, and is a snapshot's too. Slot 4 is free.
func sample() api.Image {
	return api.Image{
		Guest: 14, Root: []int{2, 0, 5, 8},
		Slots: []api.Slot{{}, data("aaaa"), table(1, 0, -1, 1), data("bbbb"), {}, table(6, 3, -1, 0), data("cccc"), table(3, 0, 0, 0), table(0, 9, 0, 0), data("dddd")},
		Refs:  []int{0, 2, 2, 2, 0, 1, 1, 1, 2, 1},
		Snaps: []api.Snap{{Name: "new", Guest: 5, Root: []int{2, 7}}, {Name: "old", Guest: 7, Root: []int{0, 8}}},
	}
}

// turned: the sample, changed.
func turned(turns ...func(m *api.Image)) api.Image {
	m := sample()
	for _, turn := range turns {
		turn(&m)
	}
	return m
}

// blank: an image without slots that are used.
func blank(guest int) api.Image {
	return api.Image{Guest: guest, Root: make([]int, (guest+3)/4), Slots: make([]api.Slot, 1), Refs: make([]int, 1)}
}

// must: the image, of a call that has no error.
func must(t *testing.T, m api.Image, e api.Errno) api.Image {
	t.Helper()
	if e != api.OK {
		t.Fatalf("error %d", e)
	}
	return m
}

// is: the call answers that image, which is right.
func is(t *testing.T, name string, m api.Image, e api.Errno, want api.Image) {
	t.Helper()
	if e := tree.Check(want); e != api.OK {
		t.Errorf("%s: what is wanted is not right: %d", name, e)
	}
	if e != api.OK || !reflect.DeepEqual(m, want) {
		t.Errorf("%s: %+v %d, not %+v", name, m, e, want)
	}
}

// refused: the call answers that error, and nothing else.
func refused(t *testing.T, name string, m api.Image, e, want api.Errno) {
	t.Helper()
	if e != want || !reflect.DeepEqual(m, api.Image{}) {
		t.Errorf("%s: %+v %d, not %d", name, m, e, want)
	}
}

// calls: each of the calls, of that page or that many pages.
func calls(n int, page string) map[string]func(m api.Image) (api.Image, api.Errno) {
	return map[string]func(m api.Image) (api.Image, api.Errno){
		"Write":  func(m api.Image) (api.Image, api.Errno) { return writes.Write(m, n, page) },
		"Wipe":   func(m api.Image) (api.Image, api.Errno) { return writes.Wipe(m, n) },
		"Punch":  func(m api.Image) (api.Image, api.Errno) { return writes.Punch(m, n) },
		"Resize": func(m api.Image) (api.Image, api.Errno) { return writes.Resize(m, n) },
	}
}

// TestG1Wrong: an image that is not right is told ahead of all else.
func TestG1Wrong(t *testing.T) {
	if e := tree.Check(sample()); e != api.OK {
		t.Fatalf("the sample is not right: %d", e)
	}
	for _, c := range []struct {
		want api.Errno
		turn func(m *api.Image)
	}{
		{api.ErrMany, func(m *api.Image) { *m = api.Image{} }},
		{api.ErrMany, func(m *api.Image) { m.Slots = make([]api.Slot, 41) }},
		{api.ErrMany, func(m *api.Image) { m.Snaps = make([]api.Snap, 4) }},
		{api.ErrForm, func(m *api.Image) { m.Slots[0] = data("zero") }},
		{api.ErrForm, func(m *api.Image) { m.Slots[1].Data = "aaa" }},
		{api.ErrForm, func(m *api.Image) { m.Slots[7].Table[0] = 0 }},
		{api.ErrForm, func(m *api.Image) { m.Refs = nil }},
		{api.ErrForm, func(m *api.Image) { m.Snaps[1].Name = "new" }},
		{api.ErrForm, func(m *api.Image) { m.Root = nil }},
		{api.ErrForm, func(m *api.Image) { m.Root[1] = 99 }},
		{api.ErrForm, func(m *api.Image) { m.Slots[8].Table[2] = 1 }},
		{api.ErrForm, func(m *api.Image) { m.Slots[2].Table[0] = 2 }},
		{api.ErrRange, func(m *api.Image) { m.Guest = -1 }},
		{api.ErrRange, func(m *api.Image) { m.Guest = math.MaxInt }},
		{api.ErrRange, func(m *api.Image) { m.Snaps[0].Guest = 17 }},
		{api.ErrRefs, func(m *api.Image) { m.Refs[1] = 1 }},
		{api.ErrRefs, func(m *api.Image) { m.Slots[4] = data("leak") }},
		{api.ErrRefs, func(m *api.Image) { m.Root[2] = 0 }},
	} {
		for _, n := range []int{-1, 0, 13, 14, 17} {
			for name, call := range calls(n, "x") {
				m, e := call(turned(c.turn))
				refused(t, name, m, e, c.want)
			}
		}
	}
}

func TestG1Range(t *testing.T) {
	for _, n := range []int{-1, -4, 14, 15, 16, 17, math.MinInt, math.MaxInt} {
		for _, page := range []string{"xxxx", "", "xxxxx"} {
			for name, call := range calls(n, page) {
				if name == "Resize" && n >= 0 && n <= api.MaxGuest {
					continue
				}
				m, e := call(sample())
				refused(t, name, m, e, api.ErrRange)
			}
		}
	}
	for name, call := range calls(0, "xxxx") {
		if m, e := call(blank(0)); name != "Resize" {
			refused(t, name, m, e, api.ErrRange)
		}
	}
	for _, page := range []string{"", "xxx", "xxxxx", "xx\u00e4x"} {
		for n := range 14 {
			m, e := writes.Write(sample(), n, page)
			refused(t, "Write of "+page, m, e, api.ErrForm)
		}
	}
	for _, n := range []int{0, api.MaxGuest} {
		m, e := writes.Resize(blank(9), n)
		is(t, "Resize", m, e, blank(n))
	}
	for n := range 14 {
		if _, e := writes.Write(sample(), n, "\x00\xff\n\x80"); e != api.OK {
			t.Errorf("Write to %d: %d", n, e)
		}
	}
}

func TestG3Write(t *testing.T) {
	for _, c := range []struct {
		name string
		n    int
		turn func(m *api.Image)
	}{
		{"a shared table: its slot is grabbed ahead of the page's", 0, func(m *api.Image) {
			m.Root[0], m.Slots[4] = 4, table(10, 0, -1, 1)
			m.Slots, m.Refs = append(m.Slots, data("xxxx")), []int{0, 3, 1, 2, 1, 1, 1, 1, 2, 1, 1}
		}},
		{"a hole of a shared table", 1, func(m *api.Image) {
			m.Root[0], m.Slots[4] = 4, table(1, 10, -1, 1)
			m.Slots, m.Refs = append(m.Slots, data("xxxx")), []int{0, 4, 1, 2, 1, 1, 1, 1, 2, 1, 1}
		}},
		{"a blank of a shared table", 2, func(m *api.Image) {
			m.Root[0], m.Slots[4] = 4, table(1, 0, 10, 1)
			m.Slots, m.Refs = append(m.Slots, data("xxxx")), []int{0, 4, 1, 2, 1, 1, 1, 1, 2, 1, 1}
		}},
		{"no table", 6, func(m *api.Image) {
			m.Root[1], m.Slots[4] = 4, table(0, 0, 10, 0)
			m.Slots, m.Refs = append(m.Slots, data("xxxx")), []int{0, 2, 2, 2, 1, 1, 1, 1, 2, 1, 1}
		}},
		{"in place", 8, func(m *api.Image) { m.Slots[6].Data = "xxxx" }},
		{"own table, shared page", 9, func(m *api.Image) {
			m.Slots[5], m.Slots[4] = table(6, 4, -1, 0), data("xxxx")
			m.Refs[3], m.Refs[4] = 1, 1
		}},
		{"own table, blank", 10, func(m *api.Image) {
			m.Slots[5], m.Slots[4] = table(6, 3, 4, 0), data("xxxx")
			m.Refs[4] = 1
		}},
		{"own table, hole", 11, func(m *api.Image) {
			m.Slots[5], m.Slots[4] = table(6, 3, -1, 4), data("xxxx")
			m.Refs[4] = 1
		}},
		{"own page of a shared table", 13, func(m *api.Image) {
			m.Root[3], m.Slots[4] = 4, table(0, 10, 0, 0)
			m.Slots, m.Refs = append(m.Slots, data("xxxx")), []int{0, 2, 2, 2, 1, 1, 1, 1, 1, 1, 1}
		}},
	} {
		m, e := writes.Write(sample(), c.n, "xxxx")
		is(t, c.name, m, e, turned(c.turn))
	}
}

// TestG3WriteSame: a page that is written takes its slot, even if it is what was there, or 0.
func TestG3WriteSame(t *testing.T) {
	m, e := writes.Write(sample(), 8, "cccc")
	is(t, "in place, the same", m, e, sample())
	m, e = writes.Write(sample(), 9, "bbbb")
	is(t, "the same, shared", m, e, turned(func(m *api.Image) {
		m.Slots[5], m.Slots[4] = table(6, 4, -1, 0), data("bbbb")
		m.Refs[3], m.Refs[4] = 1, 1
	}))
	m, e = writes.Write(blank(1), 0, zero)
	is(t, "0 to a hole", m, e, api.Image{Guest: 1, Root: []int{1}, Slots: []api.Slot{{}, table(2, 0, 0, 0), data(zero)}, Refs: []int{0, 1, 1}})
}

// twice: a Root that tells its table more than once.
func twice() api.Image {
	return api.Image{Guest: 8, Root: []int{1, 1}, Slots: []api.Slot{{}, table(2, 2, 0, 3), data("aaaa"), data("bbbb")}, Refs: []int{0, 2, 2, 1}}
}

func TestG2ToldTwiceByOneRoot(t *testing.T) {
	m, e := writes.Write(twice(), 7, "xxxx")
	is(t, "Write", m, e, api.Image{
		Guest: 8, Root: []int{1, 4}, Refs: []int{0, 1, 4, 1, 1, 1},
		Slots: []api.Slot{{}, table(2, 2, 0, 3), data("aaaa"), data("bbbb"), table(2, 2, 0, 5), data("xxxx")},
	})
	m, e = writes.Punch(twice(), 3)
	is(t, "Punch", m, e, api.Image{
		Guest: 8, Root: []int{4, 1}, Refs: []int{0, 1, 4, 1, 1},
		Slots: []api.Slot{{}, table(2, 2, 0, 3), data("aaaa"), data("bbbb"), table(2, 2, 0, 0)},
	})
	m, e = writes.Resize(twice(), 4)
	is(t, "Resize to the first table", m, e, api.Image{Guest: 4, Root: []int{1}, Slots: twice().Slots, Refs: []int{0, 1, 2, 1}})
	m, e = writes.Resize(twice(), 2)
	is(t, "Resize: cut ahead of the second one being gone", m, e, api.Image{
		Guest: 2, Root: []int{4}, Refs: []int{0, 0, 2, 0, 1},
		Slots: []api.Slot{{}, {}, data("aaaa"), {}, table(2, 2, 0, 0)},
	})
	one := must(t, m, e)
	m, e = writes.Write(one, 1, "xxxx")
	is(t, "a page told twice by its own table", m, e, api.Image{
		Guest: 2, Root: []int{4}, Refs: []int{0, 1, 1, 0, 1},
		Slots: []api.Slot{{}, data("xxxx"), data("aaaa"), {}, table(2, 1, 0, 0)},
	})
}

func TestG3Wipe(t *testing.T) {
	for _, c := range []struct {
		name string
		n    int
		turn func(m *api.Image)
	}{
		{"a shared table", 0, func(m *api.Image) {
			m.Root[0], m.Slots[4], m.Refs = 4, table(-1, 0, -1, 1), []int{0, 3, 1, 2, 1, 1, 1, 1, 2, 1}
		}},
		{"a hole of a shared table", 1, func(m *api.Image) {
			m.Root[0], m.Slots[4], m.Refs = 4, table(1, -1, -1, 1), []int{0, 4, 1, 2, 1, 1, 1, 1, 2, 1}
		}},
		{"blank already, in a shared table", 2, func(m *api.Image) {}},
		{"no table", 7, func(m *api.Image) { m.Root[1], m.Slots[4], m.Refs[4] = 4, table(0, 0, 0, -1), 1 }},
		{"in place, its own page", 8, func(m *api.Image) { m.Slots[5].Table[0], m.Slots[6], m.Refs[6] = -1, api.Slot{}, 0 }},
		{"in place, a shared page", 9, func(m *api.Image) { m.Slots[5].Table[1], m.Refs[3] = -1, 1 }},
		{"blank already", 10, func(m *api.Image) {}},
		{"in place, a hole", 11, func(m *api.Image) { m.Slots[5].Table[3] = -1 }},
	} {
		m, e := writes.Wipe(sample(), c.n)
		is(t, c.name, m, e, turned(c.turn))
	}
}

func TestG3Punch(t *testing.T) {
	for _, c := range []struct {
		name string
		n    int
		turn func(m *api.Image)
	}{
		{"a shared table", 3, func(m *api.Image) {
			m.Root[0], m.Slots[4], m.Refs = 4, table(1, 0, -1, 0), []int{0, 3, 1, 2, 1, 1, 1, 1, 2, 1}
		}},
		{"a blank of a shared table", 2, func(m *api.Image) {
			m.Root[0], m.Slots[4], m.Refs = 4, table(1, 0, 0, 1), []int{0, 4, 1, 2, 1, 1, 1, 1, 2, 1}
		}},
		{"a hole already, in a shared table", 1, func(m *api.Image) {}},
		{"no table", 4, func(m *api.Image) {}},
		{"in place, its own page", 8, func(m *api.Image) { m.Slots[5].Table[0], m.Slots[6], m.Refs[6] = 0, api.Slot{}, 0 }},
		{"in place, a shared page", 9, func(m *api.Image) { m.Slots[5].Table[1], m.Refs[3] = 0, 1 }},
		{"in place, a blank", 10, func(m *api.Image) { m.Slots[5].Table[2] = 0 }},
		{"a hole already", 11, func(m *api.Image) {}},
		{"the only page of a shared table", 13, func(m *api.Image) { m.Root[3], m.Refs[8] = 0, 1 }},
	} {
		m, e := writes.Punch(sample(), c.n)
		is(t, c.name, m, e, turned(c.turn))
	}
}

// TestG2Bare: a table goes with its last entry, and what was there is free.
func TestG2Bare(t *testing.T) {
	for _, c := range []struct {
		name string
		n    int
		s    api.Slot
	}{{"a page", 1, table(0, 2, 0, 0)}, {"a blank", 0, table(-1, 0, 0, 0)}} {
		m := api.Image{Guest: 3, Root: []int{1}, Slots: []api.Slot{{}, c.s, {}}, Refs: []int{0, 1, 0}}
		if c.n == 1 {
			m.Slots[2], m.Refs[2] = data("aaaa"), 1
		}
		want := blank(3)
		want.Slots, want.Refs = make([]api.Slot, 3), make([]int, 3)
		x, e := writes.Punch(m, c.n)
		is(t, "Punch of "+c.name, x, e, want)
		want.Guest = c.n
		want.Root = make([]int, (c.n+3)/4)
		x, e = writes.Resize(m, c.n)
		is(t, "Resize, ahead of "+c.name, x, e, want)
	}
}

func TestG3Resize(t *testing.T) {
	for _, c := range []struct {
		name  string
		guest int
		turn  func(m *api.Image)
	}{
		{"the same", 14, func(m *api.Image) {}},
		{"more, in the last table", 15, func(m *api.Image) { m.Guest = 15 }},
		{"the most", 16, func(m *api.Image) { m.Guest = 16 }},
		{"less, ahead of the only page of a shared table", 13, func(m *api.Image) { m.Guest, m.Root[3], m.Refs[8] = 13, 0, 1 }},
		{"at the last table", 12, func(m *api.Image) { m.Guest, m.Root, m.Refs[8] = 12, m.Root[:3], 1 }},
		{"a hole less", 11, func(m *api.Image) { m.Guest, m.Root, m.Refs[8] = 11, m.Root[:3], 1 }},
		{"a blank less, in place", 10, func(m *api.Image) {
			m.Guest, m.Root, m.Refs[8] = 10, m.Root[:3], 1
			m.Slots[5].Table[2] = 0
		}},
		{"two entries less, in place", 9, func(m *api.Image) {
			m.Guest, m.Root, m.Refs[8], m.Refs[3] = 9, m.Root[:3], 1, 1
			m.Slots[5].Table = []int{6, 0, 0, 0}
		}},
		{"where there is no table", 6, func(m *api.Image) {
			m.Guest, m.Root = 6, m.Root[:2]
			m.Slots[5], m.Slots[6], m.Refs = api.Slot{}, api.Slot{}, []int{0, 2, 2, 1, 0, 0, 0, 1, 1, 1}
		}},
		{"at a shared table's end", 4, func(m *api.Image) {
			m.Guest, m.Root = 4, m.Root[:1]
			m.Slots[5], m.Slots[6], m.Refs = api.Slot{}, api.Slot{}, []int{0, 2, 2, 1, 0, 0, 0, 1, 1, 1}
		}},
		{"through a shared table", 3, func(m *api.Image) {
			m.Guest, m.Root, m.Slots[4] = 3, []int{4}, table(1, 0, -1, 0)
			m.Slots[5], m.Slots[6], m.Refs = api.Slot{}, api.Slot{}, []int{0, 3, 1, 1, 1, 0, 0, 1, 1, 1}
		}},
		{"through a shared table, at once", 1, func(m *api.Image) {
			m.Guest, m.Root, m.Slots[4] = 1, []int{4}, table(1, 0, 0, 0)
			m.Slots[5], m.Slots[6], m.Refs = api.Slot{}, api.Slot{}, []int{0, 3, 1, 1, 1, 0, 0, 1, 1, 1}
		}},
		{"no pages", 0, func(m *api.Image) {
			m.Guest, m.Root = 0, []int{}
			m.Slots[5], m.Slots[6], m.Refs = api.Slot{}, api.Slot{}, []int{0, 2, 1, 1, 0, 0, 0, 1, 1, 1}
		}},
	} {
		m, e := writes.Resize(sample(), c.guest)
		is(t, c.name, m, e, turned(c.turn))
	}
	for from := range api.MaxGuest + 1 {
		for to := range api.MaxGuest + 1 {
			m, e := writes.Resize(blank(from), to)
			is(t, "of no tables", m, e, blank(to))
		}
	}
}

// TestG3ResizeAtOnce: two pages of a shared table, which are all it has, take no slot, not even for a while.
func TestG3ResizeAtOnce(t *testing.T) {
	m := api.Image{
		Guest: 4, Root: []int{1}, Slots: []api.Slot{{}, table(0, 2, -1, 2), data("aaaa")}, Refs: []int{0, 2, 2},
		Snaps: []api.Snap{{Name: "old", Guest: 4, Root: []int{1}}},
	}
	want := m
	want.Guest, want.Root, want.Refs = 1, []int{0}, []int{0, 1, 2}
	x, e := writes.Resize(m, 1)
	is(t, "cut", x, e, want)
}

// TestG3ResizeHoles: a shared table stays shared, if there is nothing to cut.
func TestG3ResizeHoles(t *testing.T) {
	m := api.Image{
		Guest: 3, Root: []int{1}, Slots: []api.Slot{{}, table(2, 0, 0, 0), data("aaaa")}, Refs: []int{0, 2, 1},
		Snaps: []api.Snap{{Name: "old", Guest: 2, Root: []int{1}}},
	}
	for guest := 1; guest <= 4; guest++ {
		want := m
		want.Guest = guest
		x, e := writes.Resize(m, guest)
		is(t, "holes", x, e, want)
	}
}

// crowd: an image in which left slots are left: the first table is its own, but for page 3, which two snapshots tell too, where nothing else is left; the second and third tables are a snapshot's too; the last one, of one page, 13, is both snapshots'.
func crowd(t *testing.T, left int) api.Image {
	t.Helper()
	m := blank(16)
	write := func(page string, l ...int) {
		for _, n := range l {
			x, e := writes.Write(m, n, page)
			m = must(t, x, e)
		}
	}
	snap := func(name string) {
		x, e := snaps.Create(m, name)
		m = must(t, x, e)
	}
	write("aaaa", 0, 1, 2, 3, 4, 5, 6, 7, 8, 9, 10, 11, 13) // 17 slots
	snap("a")
	write("bbbb", 0, 1, 2, 4, 5, 6, 7, 8, 9, 10, 11) // 14 more
	snap("b")
	write("cccc", 0, 1, 2, 4, 5, 6) // 8 more: 39
	for _, n := range []int{6, 5}[:left] {
		x, e := writes.Wipe(m, n)
		m = must(t, x, e)
	}
	if n, e := slots.Used(m.Slots); n != 39-left || e != api.OK || len(m.Slots) != 40 {
		t.Fatalf("%d of %d slots used, %d", n, len(m.Slots), e)
	}
	return m
}

func TestG1Full(t *testing.T) {
	for _, c := range []struct {
		name  string
		call  string
		n     int
		wants int // slots
	}{
		{"in place", "Write", 0, 0},
		{"its own table, a shared page", "Write", 3, 1},
		{"a shared table", "Write", 8, 2},
		{"a hole in a shared table", "Write", 14, 2},
		{"its own page", "Wipe", 2, 0},
		{"its own table, a shared page", "Wipe", 3, 0},
		{"a shared table", "Wipe", 8, 1},
		{"a hole in a shared table", "Wipe", 12, 1},
		{"its own page", "Punch", 2, 0},
		{"its own table, a shared page", "Punch", 3, 0},
		{"a shared table", "Punch", 8, 1},
		{"a hole in a shared table", "Punch", 12, 0},
		{"the only page of a shared table", "Punch", 13, 0},
		{"nothing to cut in a shared table", "Resize", 15, 0},
		{"nothing left of a shared table", "Resize", 13, 0},
		{"at a shared table", "Resize", 12, 0},
		{"through a shared table", "Resize", 11, 1},
		{"at a shared table", "Resize", 8, 0},
		{"through its own table", "Resize", 2, 0},
		{"to nothing", "Resize", 0, 0},
	} {
		for left := range 3 {
			was := crowd(t, left)
			m, e := calls(c.n, "xxxx")[c.call](was)
			if c.wants > left {
				refused(t, c.call+", "+c.name, m, e, api.ErrFull)
			} else if e != api.OK || tree.Check(m) != api.OK || len(m.Slots) != api.MaxSlots {
				t.Errorf("%s, %s, %d left: %+v %d", c.call, c.name, left, m, e)
			}
			if !reflect.DeepEqual(was, crowd(t, left)) {
				t.Errorf("%s, %s, %d left: changed what was handed in", c.call, c.name, left)
			}
		}
	}
}

// TestG1FullLast: that no slot is left is told behind all other errors.
func TestG1FullLast(t *testing.T) {
	m := crowd(t, 0)
	for _, n := range []int{3, 8, 14} {
		x, e := writes.Write(m, n, "xxx")
		refused(t, "no page", x, e, api.ErrForm)
	}
	for _, n := range []int{-1, 16, 17} {
		x, e := writes.Write(m, n, "xxx")
		refused(t, "no page's number", x, e, api.ErrRange)
	}
}

// TestG1FullNoTable: a page without a table wants two slots, also where the list may still grow.
func TestG1FullNoTable(t *testing.T) {
	m := crowd(t, 0)
	x, e := writes.Punch(m, 13)
	m = must(t, x, e)
	y, e := writes.Write(m, 13, "xxxx")
	refused(t, "none is left", y, e, api.ErrFull)
	y, e = writes.Wipe(m, 13)
	refused(t, "none is left", y, e, api.ErrFull)
	x, e = writes.Wipe(m, 0)
	m = must(t, x, e)
	y, e = writes.Write(m, 13, "xxxx")
	refused(t, "one is left", y, e, api.ErrFull)
	y, e = writes.Wipe(m, 13)
	must(t, y, e)
}

// draw: numbers, the same each time.
type draw uint64

func (d *draw) n(n int) int {
	*d = *d*6364136223846793005 + 1442695040888963407
	return int(uint64(*d) >> 33 % uint64(n))
}

// wants: how many slots a put to page n takes, the page's own not among them.
func wants(m api.Image, n int) int {
	if k := m.Root[n/api.Fan]; k != 0 && m.Refs[k] == 1 {
		return 0
	}
	return 1
}

// step: one call, drawn; what the pages must be then; how many slots it takes at most.
func (d *draw) step(m api.Image, l []string) (api.Image, api.Errno, []string, int) {
	l = slices.Clone(l)
	n := d.n(m.Guest)
	switch d.n(30) {
	case 0:
		l[n] = zero
		x, e := writes.Wipe(m, n)
		return x, e, l, wants(m, n)
	case 1:
		l[n] = zero
		x, e := writes.Punch(m, n)
		return x, e, l, wants(m, n)
	case 2:
		guest := 1 + d.n(api.MaxGuest)
		for len(l) < guest {
			l = append(l, zero)
		}
		x, e := writes.Resize(m, guest)
		return x, e, l[:guest], 1
	default:
		l[n] = "pages of letters"[d.n(12):][:api.Page]
		k, _ := tree.Look(m, n)
		most := wants(m, n) + 1
		if k > 0 && m.Refs[k] == 1 && most == 1 {
			most = 0
		}
		x, e := writes.Write(m, n, l[n])
		return x, e, l, most
	}
}

// shift: a snapshot is made, or deleted, or reverted to, now and then.
func (d *draw) shift(m api.Image) api.Image {
	name := "abcd"[d.n(4):][:1]
	calls := []func(api.Image, string) (api.Image, api.Errno){snaps.Create, snaps.Create, snaps.Delete, snaps.Revert}
	if x, e := calls[d.n(4)](m, name); e == api.OK && x.Guest > 0 {
		return x
	}
	return m
}

// past: all pages of all snapshots.
func past(m api.Image) [][]string {
	var l [][]string
	for _, s := range m.Snaps {
		p, _ := reads.Past(m, s.Name)
		l = append(l, p)
	}
	return l
}

// kept: all pages are read so; all snapshots are as they were; no more slots are taken than may be, and none is there no more.
func kept(t *testing.T, was, m api.Image, want []string, most int) {
	t.Helper()
	if l, e := reads.All(m); e != api.OK || !slices.Equal(l, want) {
		t.Fatalf("%q %d, not %q", l, e, want)
	}
	if !reflect.DeepEqual(past(m), past(was)) || len(m.Snaps) != len(was.Snaps) {
		t.Fatalf("snapshots %q, not %q", past(m), past(was))
	}
	used, _ := slots.Used(was.Slots)
	if n, _ := slots.Used(m.Slots); n > used+most || len(m.Slots) < len(was.Slots) {
		t.Fatalf("%d slots of %d used, %d of %d ahead, %d may be taken", n, len(m.Slots), used, len(was.Slots), most)
	}
}

// TestG4Drawn: what is written is read, all else is as it was; and a write is refused only if too few slots are left.
func TestG4Drawn(t *testing.T) {
	d := draw(7)
	m := blank(12)
	steps, full := 0, 0
	for i := range 6000 {
		if d.n(25) == 0 {
			m = d.shift(m)
		}
		all, _ := reads.All(m)
		used, _ := slots.Used(m.Slots)
		x, e, want, most := d.step(m, all)
		if e == api.ErrFull && most > api.MaxSlots-1-used {
			full++
			continue
		}
		if e != api.OK {
			t.Fatalf("step %d: %d, of %+v", i, e, m)
		}
		kept(t, m, x, want, most)
		m = x
		steps++
	}
	if steps < 1000 || full < 100 {
		t.Errorf("%d steps, %d refused: too few", steps, full)
	}
}

// shared: a right image of the most pages whose tables and pages are told at random, by one Root more than once too.
func (d *draw) shared() api.Image {
	const tables, pages = 5, 8
	m := api.Image{Guest: 16, Slots: make([]api.Slot, 1+tables+pages), Refs: make([]int, 1+tables+pages)}
	for i := range tables {
		m.Slots[1+i] = table(d.n(pages)+1+tables, d.n(2)-1, d.n(pages)+1+tables, 1+tables)
	}
	for i := range pages {
		m.Slots[1+tables+i] = data("page")
	}
	m.Root = []int{d.n(tables + 1), d.n(tables + 1), d.n(tables + 1), d.n(tables + 1)}
	for i := range 3 {
		m.Snaps = append(m.Snaps, api.Snap{Name: "abc"[:i+1], Guest: 8, Root: []int{d.n(tables + 1), d.n(tables + 1)}})
	}
	m.Refs, _ = tree.Counts(m)
	for k, n := range m.Refs {
		if n == 0 {
			m.Slots[k] = api.Slot{}
		}
	}
	return m
}

func TestG4Shared(t *testing.T) {
	d := draw(1)
	for range 3000 {
		m := d.shared()
		all, e := reads.All(m)
		if e != api.OK {
			t.Fatalf("not right: %d", e)
		}
		x, e, want, most := d.step(m, all)
		if e != api.OK {
			t.Fatalf("%d, of %+v", e, m)
		}
		kept(t, m, x, want, most)
	}
}

// roomy: a copy of l with spare room behind it, which holds fill.
func roomy[T any](l []T, fill T) []T {
	return append(slices.Clone(l), fill, fill)[:len(l)]
}

// roomySample: the sample, in which each list has spare room.
func roomySample() api.Image {
	m := sample()
	m.Root, m.Refs = roomy(m.Root, 77), roomy(m.Refs, 77)
	for i, s := range m.Slots {
		m.Slots[i].Table = roomy(s.Table, 77)
	}
	for i, s := range m.Snaps {
		m.Snaps[i].Root = roomy(s.Root, 77)
	}
	m.Slots, m.Snaps = roomy(m.Slots, data("room")), roomy(m.Snaps, api.Snap{Name: "room"})
	return m
}

// whole: the image with all the room of its lists, deeply copied.
func whole(m api.Image) api.Image {
	m.Root, m.Refs = slices.Clone(m.Root[:cap(m.Root)]), slices.Clone(m.Refs[:cap(m.Refs)])
	m.Slots, m.Snaps = slices.Clone(m.Slots[:cap(m.Slots)]), slices.Clone(m.Snaps[:cap(m.Snaps)])
	for i, s := range m.Slots {
		m.Slots[i].Table = slices.Clone(s.Table[:cap(s.Table)])
	}
	for i, s := range m.Snaps {
		m.Snaps[i].Root = slices.Clone(s.Root[:cap(s.Root)])
	}
	return m
}

// numberLists: all lists of numbers of the image, with their room.
func numberLists(m api.Image) [][]int {
	l := [][]int{m.Root[:cap(m.Root)], m.Refs[:cap(m.Refs)]}
	for _, s := range m.Slots {
		l = append(l, s.Table[:cap(s.Table)])
	}
	for _, s := range m.Snaps {
		l = append(l, s.Root[:cap(s.Root)])
	}
	return l
}

// spoil: each number of each list gets that of its list; then each list must have its own.
func spoil(t *testing.T, name string, m api.Image) {
	t.Helper()
	lists := numberLists(m)
	for i, l := range lists {
		for k := range l {
			l[k] = 1000 + i
		}
	}
	for i, l := range lists {
		if slices.ContainsFunc(l, func(k int) bool { return k != 1000+i }) {
			t.Errorf("%s: two lists share memory: %v", name, lists)
		}
	}
	for i := range m.Slots[:cap(m.Slots)] {
		m.Slots[:cap(m.Slots)][i].Data = "mine"
	}
	for i := range m.Snaps[:cap(m.Snaps)] {
		m.Snaps[:cap(m.Snaps)][i].Name = "mine"
	}
}

func TestP2(t *testing.T) {
	for n := range 16 {
		for name, call := range calls(n, "xxxx") {
			m := roomySample()
			was := whole(m)
			x, _ := call(m)
			y, _ := call(m)
			if !reflect.DeepEqual(x, y) {
				t.Errorf("%s %d: %+v, then %+v", name, n, x, y)
			}
			spoil(t, name, x)
			if !reflect.DeepEqual(whole(m), was) {
				t.Errorf("%s %d: what was handed in is changed: %+v", name, n, m)
			}
			spoil(t, name, m)
			if z, _ := call(roomySample()); !reflect.DeepEqual(y, z) {
				t.Errorf("%s %d: a later change is seen: %+v, not %+v", name, n, y, z)
			}
		}
	}
}
