package reads_test

import (
	"math"
	"reflect"
	"slices"
	"testing"

	"slipsheet/api"
	"slipsheet/reads"
)

const zero = "\x00\x00\x00\x00"

func data(s string) api.Slot { return api.Slot{Kind: api.Data, Data: s} }
func table(t ...int) api.Slot {
	return api.Slot{Kind: api.Table, Table: t}
}

// sample: ten pages in three tables, the middle one not there; three snapshots, one of them of no pages, one of holes.
func sample() api.Image {
	return api.Image{
		Guest: 10, Root: []int{1, 0, 4},
		Slots: []api.Slot{{}, table(2, 0, -1, 3), data("aaaa"), data("\x00b\xffb"), table(5, 2, 0, 0), data("cccc"), table(3, 3, 5, 0), {}},
		Refs:  []int{0, 2, 2, 3, 1, 2, 1, 0},
		Snaps: []api.Snap{{Name: "new", Guest: 7, Root: []int{1, 6}}, {Name: "newer", Guest: 0}, {Name: "old", Guest: 5, Root: []int{0, 0}}},
	}
}

func samplePages() []string {
	return []string{"aaaa", zero, zero, "\x00b\xffb", zero, zero, zero, zero, "cccc", "aaaa"}
}

// blank: an image without slots that are used.
func blank(guest int, root ...int) api.Image {
	return api.Image{Guest: guest, Root: root, Slots: make([]api.Slot, 1), Refs: make([]int, 1)}
}

func TestF1Read(t *testing.T) {
	for n, want := range samplePages() {
		if p, e := reads.Read(sample(), n); p != want || e != api.OK {
			t.Errorf("page %d: %q %d, not %q", n, p, e, want)
		}
	}
	for _, n := range []int{-1, 10, 11, 12, 16, math.MinInt, math.MaxInt} {
		if p, e := reads.Read(sample(), n); p != "" || e != api.ErrRange {
			t.Errorf("page %d: %q %d", n, p, e)
		}
	}
	if p, e := reads.Read(blank(0), 0); p != "" || e != api.ErrRange {
		t.Errorf("of no pages: %q %d", p, e)
	}
	if p, e := reads.Read(blank(16, 0, 0, 0, 0), 15); p != zero || e != api.OK {
		t.Errorf("the last of the most pages: %q %d", p, e)
	}
}

func TestF1All(t *testing.T) {
	for _, c := range []struct {
		name string
		m    api.Image
		want []string
	}{
		{"sample", sample(), samplePages()},
		{"no pages", blank(0), nil},
		{"one page", blank(1, 0), []string{zero}},
		{"the most pages", blank(16, 0, 0, 0, 0), slices.Repeat([]string{zero}, 16)},
		{"one table, all over", api.Image{
			Guest: 16, Root: []int{1, 1, 1, 1}, Slots: []api.Slot{{}, table(-1, 2, 0, 2), data("same")}, Refs: []int{0, 4, 2},
		}, slices.Repeat([]string{zero, "same", zero, "same"}, 4)},
	} {
		if l, e := reads.All(c.m); !slices.Equal(l, c.want) || e != api.OK {
			t.Errorf("%s: %q %d, not %q", c.name, l, e, c.want)
		}
	}
}

func TestF1Past(t *testing.T) {
	for name, want := range map[string][]string{
		"new":   {"aaaa", zero, zero, "\x00b\xffb", "\x00b\xffb", "\x00b\xffb", "cccc"},
		"newer": nil,
		"old":   slices.Repeat([]string{zero}, 5),
	} {
		if l, e := reads.Past(sample(), name); !slices.Equal(l, want) || e != api.OK {
			t.Errorf("%s: %q %d, not %q", name, l, e, want)
		}
	}
	for _, name := range []string{"", "ne", "newe", "newest", "older", "Old", "old\x00", "no name at all"} {
		if l, e := reads.Past(sample(), name); len(l) != 0 || e != api.ErrNone {
			t.Errorf("%q: %q %d", name, l, e)
		}
	}
	if l, e := reads.Past(blank(4, 0), ""); len(l) != 0 || e != api.ErrNone {
		t.Errorf("no snapshots: %q %d", l, e)
	}
}

// TestF1Wrong: an image that is not right is told ahead of all else.
func TestF1Wrong(t *testing.T) {
	for _, c := range []struct {
		want api.Errno
		turn func(m *api.Image)
	}{
		{api.ErrMany, func(m *api.Image) { m.Slots = nil }},
		{api.ErrMany, func(m *api.Image) { m.Snaps = make([]api.Snap, 4) }},
		{api.ErrForm, func(m *api.Image) { m.Slots[2].Data = "aaa" }},
		{api.ErrForm, func(m *api.Image) { m.Refs = nil }},
		{api.ErrForm, func(m *api.Image) { m.Snaps[2].Name = "new" }},
		{api.ErrForm, func(m *api.Image) { m.Snaps[2].Root = nil }},
		{api.ErrForm, func(m *api.Image) { m.Root[2] = 99 }},
		{api.ErrForm, func(m *api.Image) { m.Slots[4].Table[3] = 2 }},
		{api.ErrForm, func(m *api.Image) { m.Slots[1].Table[0] = 1 }},
		{api.ErrRange, func(m *api.Image) { m.Guest = -1 }},
		{api.ErrRange, func(m *api.Image) { m.Guest = math.MaxInt }},
		{api.ErrRange, func(m *api.Image) { m.Snaps[0].Guest = 17 }},
		{api.ErrRefs, func(m *api.Image) { m.Refs[3] = 2 }},
		{api.ErrRefs, func(m *api.Image) { m.Slots[7] = data("leak") }},
		{api.ErrRefs, func(m *api.Image) { m.Root[2] = 0 }},
	} {
		m := sample()
		c.turn(&m)
		for _, n := range []int{-1, 0, 10} {
			if p, e := reads.Read(m, n); p != "" || e != c.want {
				t.Errorf("%+v: Read %d: %q %d, not %d", m, n, p, e, c.want)
			}
		}
		if l, e := reads.All(m); len(l) != 0 || e != c.want {
			t.Errorf("%+v: All: %q %d, not %d", m, l, e, c.want)
		}
		for _, name := range []string{"new", "none", ""} {
			if l, e := reads.Past(m, name); len(l) != 0 || e != c.want {
				t.Errorf("%+v: Past %q: %q %d, not %d", m, name, l, e, c.want)
			}
		}
	}
	if l, e := reads.All(api.Image{}); len(l) != 0 || e != api.ErrMany {
		t.Errorf("nothing at all: %q %d", l, e)
	}
}

// roomy: a copy of l with spare room behind it, which holds fill.
func roomy[T any](l []T, fill T) []T {
	return append(slices.Clone(l), fill, fill)[:len(l)]
}

func TestP2OnlyRead(t *testing.T) {
	m := sample()
	m.Root, m.Refs, m.Snaps[0].Root = roomy(m.Root, 77), roomy(m.Refs, 77), roomy(m.Snaps[0].Root, 77)
	m.Slots, m.Snaps = roomy(m.Slots, data("room")), roomy(m.Snaps, api.Snap{Name: "room"})
	reads.Read(m, 0)
	reads.All(m)
	reads.Past(m, "new")
	reads.Past(m, "none")
	if !reflect.DeepEqual(m, sample()) {
		t.Errorf("changed: %+v", m)
	}
	for _, l := range [][]int{m.Root, m.Refs, m.Snaps[0].Root} {
		if room := l[len(l) : len(l)+2]; !slices.Equal(room, []int{77, 77}) {
			t.Errorf("spare room changed: %v", room)
		}
	}
	if s := m.Slots[:10][8:]; s[0].Data != "room" || s[1].Data != "room" {
		t.Errorf("spare slots changed: %v", s)
	}
	if s := m.Snaps[:5][3:]; s[0].Name != "room" || s[1].Name != "room" {
		t.Errorf("spare snapshots changed: %v", s)
	}
}

func TestP2NewMemory(t *testing.T) {
	m := sample()
	a, _ := reads.All(m)
	p, _ := reads.Past(m, "new")
	a[0], p[1] = "mine", "mine"
	if !reflect.DeepEqual(m, sample()) {
		t.Errorf("an answer shares memory with the image: %+v", m)
	}
	if l, e := reads.All(m); !slices.Equal(l, samplePages()) || e != api.OK {
		t.Errorf("read again: %q %d", l, e)
	}
	m.Slots[2].Data = "else"
	if a[9] != "aaaa" || p[0] != "aaaa" {
		t.Errorf("a later change is seen: %q %q", a, p)
	}
}
