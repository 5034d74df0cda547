package move_test

import (
	"math"
	"reflect"
	"slices"
	"testing"

	"slipsheet/api"
	"slipsheet/move"
	"slipsheet/reads"
	"slipsheet/slots"
	"slipsheet/tree"
)

const zero = "\x00\x00\x00\x00"

func data(s string) api.Slot { return api.Slot{Kind: api.Data, Data: s} }
func table(t ...int) api.Slot {
	return api.Slot{Kind: api.Table, Table: t}
}

// blank: an image without slots that are used.
func blank(guest int) api.Image {
	return api.Image{Guest: guest, Root: make([]int, (guest+3)/4), Slots: make([]api.Slot, 1), Refs: make([]int, 1)}
}

// sample: ten pages in two tables, with none between; the first one is a snapshot's too, which has one of its own; slots 1, 4, 5 and 10 are free.
func sample() api.Image {
	return api.Image{
		Guest: 10, Root: []int{9, 0, 6},
		Slots: []api.Slot{{}, {}, data("aaaa"), data("bbbb"), {}, {}, table(7, 2, 0, 0), data("cccc"), table(3, 3, 7, 0), table(2, 0, -1, 3), {}},
		Refs:  []int{0, 0, 2, 3, 0, 0, 1, 2, 1, 2, 0},
		Snaps: []api.Snap{{Name: "new", Guest: 7, Root: []int{9, 8}}, {Name: "newer", Guest: 0}, {Name: "old", Guest: 8, Root: []int{0, 0}}},
	}
}

// packed: the sample, packed.
func packed() api.Image {
	return api.Image{
		Guest: 10, Root: []int{6, 0, 3},
		Slots: []api.Slot{{}, data("aaaa"), data("bbbb"), table(4, 1, 0, 0), data("cccc"), table(2, 2, 4, 0), table(1, 0, -1, 2)},
		Refs:  []int{0, 2, 3, 1, 2, 1, 2},
		Snaps: []api.Snap{{Name: "new", Guest: 7, Root: []int{6, 5}}, {Name: "newer", Guest: 0}, {Name: "old", Guest: 8, Root: []int{0, 0}}},
	}
}

// alone: the sample without its snapshots.
func alone() api.Image {
	m := sample()
	m.Snaps, m.Slots[8], m.Refs = nil, api.Slot{}, []int{0, 0, 2, 1, 0, 0, 1, 1, 0, 1, 0}
	return m
}

// turned: the sample, changed.
func turned(turns ...func(m *api.Image)) api.Image {
	m := sample()
	for _, turn := range turns {
		turn(&m)
	}
	return m
}

func TestK1Up(t *testing.T) {
	for _, c := range []struct {
		name string
		l    []string
		want api.Image
	}{
		{"no pages", nil, blank(0)},
		{"no pages, a list of none", []string{}, blank(0)},
		{"a page of 0", []string{zero}, blank(1)},
		{"the most, all 0", slices.Repeat([]string{zero}, 16), blank(16)},
		{"one page", []string{"aaaa"}, api.Image{
			Guest: 1, Root: []int{1}, Slots: []api.Slot{{}, table(2, 0, 0, 0), data("aaaa")}, Refs: []int{0, 1, 1},
		}},
		{"nearly 0", []string{"\x00\x00\x00\x01", "\x00\x80\x00\x00", "\x00\x00\x01\x00", "\xff\x00\x00\x00"}, api.Image{
			Guest: 4, Root: []int{1},
			Slots: []api.Slot{{}, table(2, 3, 4, 5), data("\x00\x00\x00\x01"), data("\x00\x80\x00\x00"), data("\x00\x00\x01\x00"), data("\xff\x00\x00\x00")},
			Refs:  []int{0, 1, 1, 1, 1, 1},
		}},
		{"six pages, two of them not 0", []string{zero, "aaaa", zero, zero, zero, "bbbb"}, api.Image{
			Guest: 6, Root: []int{1, 3}, Slots: []api.Slot{{}, table(0, 2, 0, 0), data("aaaa"), table(0, 4, 0, 0), data("bbbb")}, Refs: []int{0, 1, 1, 1, 1},
		}},
		{"pages that are the same are not shared", []string{"same", "same", zero, "same", zero, zero, zero, zero, "same"}, api.Image{
			Guest: 9, Root: []int{1, 0, 5},
			Slots: []api.Slot{{}, table(2, 3, 0, 4), data("same"), data("same"), data("same"), table(6, 0, 0, 0), data("same")}, Refs: []int{0, 1, 1, 1, 1, 1, 1},
		}},
	} {
		if m, e := move.Up(c.l); e != api.OK || !reflect.DeepEqual(m, c.want) {
			t.Errorf("%s: %+v %d, not %+v", c.name, m, e, c.want)
		}
	}
	m, e := move.Up(slices.Repeat([]string{"full"}, 16))
	if n, _ := slots.Used(m.Slots); e != api.OK || n != 20 || len(m.Slots) != 21 || !slices.Equal(m.Root, []int{1, 6, 11, 16}) {
		t.Errorf("the most, none of them 0: %+v %d", m, e)
	}
}

func TestK1UpWrong(t *testing.T) {
	for _, c := range []struct {
		name string
		want api.Errno
		l    []string
	}{
		{"a short page", api.ErrForm, []string{"aaaa", "bbb"}},
		{"a long page", api.ErrForm, []string{"aaaaa", "bbbb"}},
		{"an empty one", api.ErrForm, []string{zero, ""}},
		{"0, too short", api.ErrForm, []string{zero[:3]}},
		{"too many", api.ErrMany, slices.Repeat([]string{"aaaa"}, 17)},
		{"too many, none of them a page", api.ErrMany, make([]string, 17)},
	} {
		if m, e := move.Up(c.l); e != c.want || !reflect.DeepEqual(m, api.Image{}) {
			t.Errorf("%s: %+v %d, not %d", c.name, m, e, c.want)
		}
	}
}

func TestK1Down(t *testing.T) {
	for _, c := range []struct {
		name string
		m    api.Image
		want []string
	}{
		{"no pages", blank(0), nil},
		{"the most, all 0", blank(16), slices.Repeat([]string{zero}, 16)},
		{"the sample's pages", alone(), []string{"aaaa", zero, zero, "bbbb", zero, zero, zero, zero, "cccc", "aaaa"}},
	} {
		if l, e := move.Down(c.m); e != api.OK || !slices.Equal(l, c.want) {
			t.Errorf("%s: %q %d, not %q", c.name, l, e, c.want)
		}
	}
}

func TestK1Busy(t *testing.T) {
	none := blank(0)
	none.Snaps = []api.Snap{{Name: "none"}}
	for _, m := range []api.Image{sample(), packed(), none} {
		if l, e := move.Down(m); len(l) != 0 || e != api.ErrBusy {
			t.Errorf("%q %d, of %+v", l, e, m)
		}
	}
}

// TestK1Wrong: an image that is not right is told ahead of its snapshots.
func TestK1Wrong(t *testing.T) {
	for _, c := range []struct {
		want api.Errno
		turn func(m *api.Image)
	}{
		{api.ErrMany, func(m *api.Image) { *m = api.Image{} }},
		{api.ErrMany, func(m *api.Image) { m.Slots = make([]api.Slot, 41) }},
		{api.ErrMany, func(m *api.Image) { m.Snaps = make([]api.Snap, 4) }},
		{api.ErrForm, func(m *api.Image) { m.Slots[2].Data = "aaa" }},
		{api.ErrForm, func(m *api.Image) { m.Slots[1].Kind = 3 }},
		{api.ErrForm, func(m *api.Image) { m.Slots[9].Table[0] = 1 }},
		{api.ErrForm, func(m *api.Image) { m.Slots[9].Table[0] = 39 }},
		{api.ErrForm, func(m *api.Image) { m.Refs = m.Refs[:10] }},
		{api.ErrForm, func(m *api.Image) { m.Snaps[2].Name = "new" }},
		{api.ErrForm, func(m *api.Image) { m.Snaps[0].Root = nil }},
		{api.ErrForm, func(m *api.Image) { m.Root[1] = 2 }},
		{api.ErrForm, func(m *api.Image) { m.Root[1] = 99 }},
		{api.ErrForm, func(m *api.Image) { m.Guest = 9 }},
		{api.ErrRange, func(m *api.Image) { m.Guest = math.MinInt }},
		{api.ErrRange, func(m *api.Image) { m.Guest = 17 }},
		{api.ErrRange, func(m *api.Image) { m.Snaps[1].Guest = -1 }},
		{api.ErrRefs, func(m *api.Image) { m.Refs[1] = 1 }},
		{api.ErrRefs, func(m *api.Image) { m.Refs[0] = 1 }},
		{api.ErrRefs, func(m *api.Image) { m.Slots[1] = data("leak") }},
		{api.ErrRefs, func(m *api.Image) { m.Root[2] = 0 }},
		{api.ErrRefs, func(m *api.Image) { m.Snaps = nil }},
	} {
		m := turned(c.turn)
		if l, e := move.Down(m); len(l) != 0 || e != c.want {
			t.Errorf("%+v: Down %q %d, not %d", m, l, e, c.want)
		}
		if x, e := move.Pack(m); !reflect.DeepEqual(x, api.Image{}) || e != c.want {
			t.Errorf("%+v: Pack %+v %d, not %d", m, x, e, c.want)
		}
	}
}

func TestK1Pack(t *testing.T) {
	far := blank(4)
	far.Slots, far.Refs, far.Root = make([]api.Slot, 40), make([]int, 40), []int{39}
	far.Slots[39], far.Slots[38], far.Refs[39], far.Refs[38] = table(38, -1, 0, 38), data("last"), 1, 2
	free := blank(6)
	free.Slots, free.Refs = make([]api.Slot, 40), make([]int, 40)
	full := blank(16)
	full.Root = []int{1, 2, 3, 4}
	full.Slots, full.Refs = append(full.Slots, table(-1, 0, 0, 0), table(-1, 0, 0, 0), table(0, -1, 0, 0), table(0, 0, 0, -1)), []int{0, 1, 1, 1, 1}
	for _, c := range []struct {
		name    string
		m, want api.Image
	}{
		{"the sample", sample(), packed()},
		{"nothing is free", packed(), packed()},
		{"one slot", blank(5), blank(5)},
		{"no pages", blank(0), blank(0)},
		{"all are free", free, blank(6)},
		{"tables of blanks", full, full},
		{"the last two of the most", far, api.Image{Guest: 4, Root: []int{2}, Slots: []api.Slot{{}, data("last"), table(1, -1, 0, 1)}, Refs: []int{0, 2, 1}}},
		{"what a snapshot alone tells", api.Image{
			Guest: 0, Slots: []api.Slot{{}, {}, table(-1, 3, 0, 0), data("past")}, Refs: []int{0, 0, 1, 1}, Snaps: []api.Snap{{Name: "old", Guest: 2, Root: []int{2}}},
		}, api.Image{
			Guest: 0, Slots: []api.Slot{{}, table(-1, 2, 0, 0), data("past")}, Refs: []int{0, 1, 1}, Snaps: []api.Snap{{Name: "old", Guest: 2, Root: []int{1}}},
		}},
	} {
		if e := tree.Check(c.want); e != api.OK {
			t.Errorf("%s: what is wanted is not right: %d", c.name, e)
		}
		if m, e := move.Pack(c.m); e != api.OK || !reflect.DeepEqual(m, c.want) {
			t.Errorf("%s: %+v %d, not %+v", c.name, m, e, c.want)
		}
	}
}

// draw: numbers, the same each time.
type draw uint64

func (d *draw) n(n int) int {
	*d = *d*6364136223846793005 + 1442695040888963407
	return int(uint64(*d) >> 33 % uint64(n))
}

func TestK2DownOfUp(t *testing.T) {
	d := draw(9)
	for range 3000 {
		var l []string
		for range d.n(17) {
			l = append(l, []string{zero, zero, "aaaa", "bbbb", "\x00\x00\x00\xff"}[d.n(5)])
		}
		m, e := move.Up(l)
		if e != api.OK || tree.Check(m) != api.OK {
			t.Fatalf("%q: %+v %d", l, m, e)
		}
		if x, e := move.Down(m); e != api.OK || !slices.Equal(x, l) {
			t.Fatalf("%q %d, not %q", x, e, l)
		}
	}
}

// image: a right one, whose slots stand and are told at random.
func (d *draw) image() api.Image {
	m := api.Image{Guest: 16, Slots: make([]api.Slot, 1)}
	var tables, pages []int
	for k := 1; k < 30; k++ {
		switch d.n(3) {
		case 0:
			tables = append(tables, k)
			m.Slots = append(m.Slots, table(-1, 0, 0, -1))
		case 1:
			pages = append(pages, k)
			m.Slots = append(m.Slots, data("abcdefghijklmnopqrstuvwxyzabcdefg"[k:][:4]))
		default:
			m.Slots = append(m.Slots, api.Slot{})
		}
	}
	one := func(l []int) int { return append(l, 0)[d.n(len(l)+1)] }
	for _, k := range tables {
		m.Slots[k].Table[d.n(3)], m.Slots[k].Table[1] = one(pages), one(pages)
	}
	m.Root = []int{one(tables), one(tables), one(tables), one(tables)}
	for i := range d.n(4) {
		m.Snaps = append(m.Snaps, api.Snap{Name: "abc"[:i+1], Guest: 8, Root: []int{one(tables), one(tables)}})
	}
	m.Refs = make([]int, len(m.Slots))
	m.Refs, _ = tree.Counts(m)
	for k, n := range m.Refs {
		if n == 0 {
			m.Slots[k] = api.Slot{}
		}
	}
	return m
}

// kinds: of the slots that are used, in their order, with their pages.
func kinds(l []api.Slot) []string {
	var out []string
	for _, s := range l {
		switch s.Kind {
		case api.Data:
			out = append(out, s.Data)
		case api.Table:
			out = append(out, "table")
		}
	}
	return out
}

func TestK2Packed(t *testing.T) {
	d := draw(2)
	for range 3000 {
		m := d.image()
		if e := tree.Check(m); e != api.OK {
			t.Fatalf("not right: %d, %+v", e, m)
		}
		x, e := move.Pack(m)
		if e != api.OK || tree.Check(x) != api.OK || x.Guest != m.Guest || len(x.Snaps) != len(m.Snaps) {
			t.Fatalf("%+v %d, of %+v", x, e, m)
		}
		if n, _ := slots.Used(m.Slots); len(x.Slots) != n+1 || !slices.Equal(kinds(x.Slots), kinds(m.Slots)) {
			t.Fatalf("%d slots, %d are used: %+v, of %+v", len(x.Slots), n, x, m)
		}
		was, _ := reads.All(m)
		if l, e := reads.All(x); e != api.OK || !slices.Equal(l, was) {
			t.Fatalf("%q %d, not %q", l, e, was)
		}
		for i, s := range m.Snaps {
			was, _ := reads.Past(m, s.Name)
			if l, e := reads.Past(x, s.Name); e != api.OK || !slices.Equal(l, was) || x.Snaps[i].Guest != s.Guest {
				t.Fatalf("%s: %q %d, not %q", s.Name, l, e, was)
			}
		}
		if y, e := move.Pack(x); e != api.OK || !reflect.DeepEqual(x, y) {
			t.Fatalf("once more: %+v %d, not %+v", y, e, x)
		}
	}
}

// roomy: a copy of l with spare room behind it, which holds fill.
func roomy[T any](l []T, fill T) []T {
	return append(slices.Clone(l), fill, fill)[:len(l)]
}

// roomySample: the image, in which each list has spare room.
func roomySample(m api.Image) api.Image {
	m.Root, m.Refs = roomy(m.Root, 77), roomy(m.Refs, 77)
	for i, s := range m.Slots {
		m.Slots[i].Table = roomy(s.Table, 77)
	}
	for i, s := range m.Snaps {
		m.Snaps[i].Root = roomy(s.Root, 77)
	}
	m.Slots, m.Snaps = roomy(m.Slots, data("room")), roomy(m.Snaps, api.Snap{Name: "room"})
	return m
}

// whole: the image with all the room of its lists, deeply copied.
func whole(m api.Image) api.Image {
	m.Root, m.Refs = slices.Clone(m.Root[:cap(m.Root)]), slices.Clone(m.Refs[:cap(m.Refs)])
	m.Slots, m.Snaps = slices.Clone(m.Slots[:cap(m.Slots)]), slices.Clone(m.Snaps[:cap(m.Snaps)])
	for i, s := range m.Slots {
		m.Slots[i].Table = slices.Clone(s.Table[:cap(s.Table)])
	}
	for i, s := range m.Snaps {
		m.Snaps[i].Root = slices.Clone(s.Root[:cap(s.Root)])
	}
	return m
}

// spoil: each number of each list gets that of its list; then each list must have its own.
func spoil(t *testing.T, m api.Image) {
	t.Helper()
	m.Slots, m.Snaps = m.Slots[:cap(m.Slots)], m.Snaps[:cap(m.Snaps)]
	lists := [][]int{m.Root[:cap(m.Root)], m.Refs[:cap(m.Refs)]}
	for i, s := range m.Slots {
		lists = append(lists, s.Table[:cap(s.Table)])
		m.Slots[i].Data = "mine"
	}
	for i, s := range m.Snaps {
		lists = append(lists, s.Root[:cap(s.Root)])
		m.Snaps[i].Name = "mine"
	}
	for i, l := range lists {
		for k := range l {
			l[k] = 1000 + i
		}
	}
	for i, l := range lists {
		if slices.ContainsFunc(l, func(k int) bool { return k != 1000+i }) {
			t.Errorf("two lists share memory: %v", lists)
		}
	}
}

// TestP2Pack: also of an image that is packed already, which stays as it is.
func TestP2Pack(t *testing.T) {
	for _, start := range []func() api.Image{sample, packed} {
		m := roomySample(start())
		was := whole(m)
		x, _ := move.Pack(m)
		y, _ := move.Pack(m)
		if !reflect.DeepEqual(x, y) {
			t.Errorf("%+v, then %+v", x, y)
		}
		spoil(t, x)
		if !reflect.DeepEqual(whole(m), was) {
			t.Errorf("what was handed in is changed: %+v", m)
		}
		spoil(t, m)
		if z, _ := move.Pack(roomySample(start())); !reflect.DeepEqual(y, z) {
			t.Errorf("a later change is seen: %+v, not %+v", y, z)
		}
	}
}

func TestP2UpAndDown(t *testing.T) {
	l := roomy([]string{"aaaa", zero, "bbbb"}, "room")
	m, _ := move.Up(l)
	if !slices.Equal(l[:5], []string{"aaaa", zero, "bbbb", "room", "room"}) {
		t.Errorf("what was handed in is changed: %q", l[:5])
	}
	again, _ := move.Up(l)
	l[0], l[1] = "else", "else"
	if !reflect.DeepEqual(m, again) {
		t.Errorf("a later change is seen: %+v, not %+v", m, again)
	}
	spoil(t, m)
	one := roomySample(alone())
	was := whole(one)
	x, _ := move.Down(one)
	y, _ := move.Down(one)
	x[0], x[9] = "mine", "mine"
	if !reflect.DeepEqual(whole(one), was) || y[0] != "aaaa" || y[9] != "aaaa" {
		t.Errorf("an answer shares memory: %+v %q", one, y)
	}
	spoil(t, one)
	if y[0] != "aaaa" || y[9] != "aaaa" {
		t.Errorf("a later change is seen: %q", y)
	}
}
