package snaps_test

import (
	"math"
	"reflect"
	"slices"
	"testing"

	"slipsheet/api"
	"slipsheet/reads"
	"slipsheet/slots"
	"slipsheet/snaps"
	"slipsheet/tree"
	"slipsheet/writes"
)

func data(s string) api.Slot { return api.Slot{Kind: api.Data, Data: s} }
func table(t ...int) api.Slot {
	return api.Slot{Kind: api.Table, Table: t}
}

// sample: six pages in two tables; the first one is a snapshot's too, which has one of its own; page 4 is told by that one too; slot 7 is free.
func sample() api.Image {
	return api.Image{
		Guest: 6, Root: []int{2, 4},
		Slots: []api.Slot{{}, data("aaaa"), table(1, 0, -1, 1), data("bbbb"), table(3, 0, 0, 0), table(3, 6, 0, 0), data("cccc"), {}},
		Refs:  []int{0, 2, 2, 2, 1, 1, 1, 0},
		Snaps: []api.Snap{{Name: "e", Guest: 7, Root: []int{2, 5}}, {Name: "em", Guest: 9, Root: []int{0, 0, 0}}},
	}
}

// turned: the sample, changed.
func turned(turns ...func(m *api.Image)) api.Image {
	m := sample()
	for _, turn := range turns {
		turn(&m)
	}
	return m
}

// is: the call answers that image, which is right.
func is(t *testing.T, name string, m api.Image, e api.Errno, want api.Image) {
	t.Helper()
	if e := tree.Check(want); e != api.OK {
		t.Errorf("%s: what is wanted is not right: %d", name, e)
	}
	if e != api.OK || !reflect.DeepEqual(m, want) {
		t.Errorf("%s: %+v %d, not %+v", name, m, e, want)
	}
}

// refused: the call answers that error, and nothing else.
func refused(t *testing.T, name string, m api.Image, e, want api.Errno) {
	t.Helper()
	if e != want || !reflect.DeepEqual(m, api.Image{}) {
		t.Errorf("%s: %+v %d, not %d", name, m, e, want)
	}
}

type call func(m api.Image, name string) (api.Image, api.Errno)

func calls() map[string]call {
	return map[string]call{"Create": snaps.Create, "Revert": snaps.Revert, "Delete": snaps.Delete}
}

// noNames: texts that no snapshot may have for its name.
func noNames() []string {
	return []string{"", "E", "Em", "e ", " e", "e1", "e`", "e{", "e\x00", "e\n", "\xff", "é", "aaaaaaaaa", "no name at all"}
}

// TestH1Wrong: an image that is not right is told ahead of all else.
func TestH1Wrong(t *testing.T) {
	if e := tree.Check(sample()); e != api.OK {
		t.Fatalf("the sample is not right: %d", e)
	}
	for _, c := range []struct {
		want api.Errno
		turn func(m *api.Image)
	}{
		{api.ErrMany, func(m *api.Image) { *m = api.Image{} }},
		{api.ErrMany, func(m *api.Image) { m.Slots = make([]api.Slot, 41) }},
		{api.ErrMany, func(m *api.Image) { m.Snaps = make([]api.Snap, 4) }},
		{api.ErrForm, func(m *api.Image) { m.Slots[1].Data = "aaa" }},
		{api.ErrForm, func(m *api.Image) { m.Refs = nil }},
		{api.ErrForm, func(m *api.Image) { m.Snaps[1].Name = "e" }},
		{api.ErrForm, func(m *api.Image) { m.Snaps[0].Name = "z" }},
		{api.ErrForm, func(m *api.Image) { m.Snaps[0].Root = nil }},
		{api.ErrForm, func(m *api.Image) { m.Root[1] = 99 }},
		{api.ErrRange, func(m *api.Image) { m.Guest = math.MinInt }},
		{api.ErrRange, func(m *api.Image) { m.Snaps[1].Guest = 17 }},
		{api.ErrRefs, func(m *api.Image) { m.Refs[1] = 1 }},
		{api.ErrRefs, func(m *api.Image) { m.Slots[7] = data("leak") }},
		{api.ErrRefs, func(m *api.Image) { m.Snaps = nil }},
	} {
		for _, s := range []string{"e", "new", "none", "", "No"} {
			for name, f := range calls() {
				m, e := f(turned(c.turn), s)
				refused(t, name+" "+s, m, e, c.want)
			}
		}
	}
}

func TestH1Create(t *testing.T) {
	root := func() []int { return []int{2, 4} }
	for name, l := range map[string][]api.Snap{
		"a":        {{Name: "a", Guest: 6, Root: root()}, sample().Snaps[0], sample().Snaps[1]},
		"dzzzzzzz": {{Name: "dzzzzzzz", Guest: 6, Root: root()}, sample().Snaps[0], sample().Snaps[1]},
		"ea":       {sample().Snaps[0], {Name: "ea", Guest: 6, Root: root()}, sample().Snaps[1]},
		"elzzz":    {sample().Snaps[0], {Name: "elzzz", Guest: 6, Root: root()}, sample().Snaps[1]},
		"ema":      {sample().Snaps[0], sample().Snaps[1], {Name: "ema", Guest: 6, Root: root()}},
		"zzzzzzzz": {sample().Snaps[0], sample().Snaps[1], {Name: "zzzzzzzz", Guest: 6, Root: root()}},
	} {
		m, e := snaps.Create(sample(), name)
		is(t, "Create "+name, m, e, turned(func(m *api.Image) { m.Snaps, m.Refs = l, []int{0, 2, 3, 2, 2, 1, 1, 0} }))
	}
	empty := api.Image{Slots: make([]api.Slot, 1), Refs: []int{0}}
	m, e := snaps.Create(empty, "z")
	if e != api.OK || tree.Check(m) != api.OK || len(m.Snaps) != 1 || m.Snaps[0].Name != "z" || m.Snaps[0].Guest != 0 || len(m.Snaps[0].Root) != 0 {
		t.Errorf("of no pages: %+v %d", m, e)
	}
}

func TestH1CreateErrors(t *testing.T) {
	three := turned(func(m *api.Image) { m.Snaps = append(m.Snaps, api.Snap{Name: "old", Guest: 0}) })
	if e := tree.Check(three); e != api.OK {
		t.Fatalf("three snapshots: %d", e)
	}
	for _, was := range []api.Image{sample(), three} {
		for _, s := range noNames() {
			m, e := snaps.Create(was, s)
			refused(t, s, m, e, api.ErrName)
		}
		for _, s := range was.Snaps {
			m, e := snaps.Create(was, s.Name)
			refused(t, s.Name, m, e, api.ErrThere)
		}
	}
	for _, s := range []string{"a", "el", "ol", "olde", "z"} {
		m, e := snaps.Create(three, s)
		refused(t, s, m, e, api.ErrMany)
	}
}

func TestH1Revert(t *testing.T) {
	m, e := snaps.Revert(sample(), "e")
	is(t, "a table of its own", m, e, turned(func(m *api.Image) {
		m.Guest, m.Root, m.Slots[4] = 7, []int{2, 5}, api.Slot{}
		m.Refs = []int{0, 2, 2, 1, 0, 2, 1, 0}
	}))
	m, e = snaps.Revert(sample(), "em")
	is(t, "no table", m, e, turned(func(m *api.Image) {
		m.Guest, m.Root, m.Slots[4] = 9, []int{0, 0, 0}, api.Slot{}
		m.Refs = []int{0, 2, 1, 1, 0, 1, 1, 0}
	}))
	again, e := snaps.Revert(m, "em")
	is(t, "what is there already", again, e, m)
}

func TestH1Delete(t *testing.T) {
	m, e := snaps.Delete(sample(), "e")
	one := turned(func(m *api.Image) {
		m.Snaps = m.Snaps[1:]
		m.Slots[5], m.Slots[6], m.Refs = api.Slot{}, api.Slot{}, []int{0, 2, 1, 1, 1, 0, 0, 0}
	})
	is(t, "a table of its own, and a page", m, e, one)
	m, e = snaps.Delete(sample(), "em")
	is(t, "no table", m, e, turned(func(m *api.Image) { m.Snaps = m.Snaps[:1] }))
	m, e = snaps.Delete(one, "em")
	if want := one; e != api.OK || len(m.Snaps) != 0 || !reflect.DeepEqual(m.Slots, want.Slots) || !slices.Equal(m.Refs, want.Refs) {
		t.Errorf("the last one: %+v %d", m, e)
	}
}

func TestH1None(t *testing.T) {
	for _, s := range append(noNames(), "a", "d", "ea", "el", "en", "ema", "f") {
		for _, f := range []call{snaps.Revert, snaps.Delete} {
			m, e := f(sample(), s)
			refused(t, s, m, e, api.ErrNone)
		}
	}
	m, e := snaps.Revert(api.Image{Slots: make([]api.Slot, 1), Refs: []int{0}}, "e")
	refused(t, "no snapshots", m, e, api.ErrNone)
}

// TestH1NoSlot: a snapshot takes no slot, so that none need be left.
func TestH1NoSlot(t *testing.T) {
	m := api.Image{Guest: 16, Root: make([]int, 4), Slots: make([]api.Slot, 1), Refs: make([]int, 1)}
	for i, name := range []string{"a", "b", "c"} {
		for n := range 16 {
			x, e := writes.Write(m, n, "page")
			if e == api.OK {
				m = x
			} else if i == 0 || e != api.ErrFull {
				t.Fatalf("Write to %d ahead of %s: %d", n, name, e)
			}
		}
		used, _ := slots.Used(m.Slots)
		if i > 0 && used != api.MaxSlots-1 {
			t.Fatalf("%d slots used ahead of %s", used, name)
		}
		x, e := snaps.Create(m, name)
		if n, _ := slots.Used(x.Slots); e != api.OK || n != used || len(x.Slots) != len(m.Slots) {
			t.Errorf("%s: %d slots used, %d ahead; %d", name, n, used, e)
		}
		m = x
	}
	for _, name := range []string{"a", "b", "c"} {
		if x, e := snaps.Revert(m, name); e != api.OK || tree.Check(x) != api.OK {
			t.Errorf("Revert %s: %d", name, e)
		}
	}
}

// draw: numbers, the same each time.
type draw uint64

func (d *draw) n(n int) int {
	*d = *d*6364136223846793005 + 1442695040888963407
	return int(uint64(*d) >> 33 % uint64(n))
}

// scribble: some pages are written, wiped, cut; what is refused is left out.
func (d *draw) scribble(m api.Image) api.Image {
	for range d.n(12) {
		n := d.n(16)
		var x api.Image
		var e api.Errno
		switch d.n(8) {
		case 0:
			x, e = writes.Wipe(m, n)
		case 1:
			x, e = writes.Punch(m, n)
		case 2:
			x, e = writes.Resize(m, n)
		case 3:
			x, e = writes.Resize(m, api.MaxGuest)
		default:
			x, e = writes.Write(m, n, "some letters"[d.n(8):][:api.Page])
		}
		if e == api.OK {
			m = x
		}
	}
	return m
}

// TestH2Drawn: a snapshot is what the image was, whatever is written since, and takes no slot; what only it had is free when it is gone.
func TestH2Drawn(t *testing.T) {
	d := draw(3)
	m := api.Image{Guest: 16, Root: make([]int, 4), Slots: make([]api.Slot, 1), Refs: make([]int, 1)}
	was := map[string][]string{}
	for i := range 3000 {
		m = d.scribble(m)
		name := "abcd"[d.n(4):][:1]
		all, _ := reads.All(m)
		used, _ := slots.Used(m.Slots)
		old, there := was[name]
		var x api.Image
		var e, want api.Errno
		switch d.n(3) {
		case 0:
			x, e = snaps.Create(m, name)
			if n, _ := slots.Used(x.Slots); e == api.OK && n != used {
				t.Fatalf("step %d: %d slots, %d ahead", i, n, used)
			}
			if there {
				want = api.ErrThere
			} else if len(was) == api.MaxSnaps {
				want = api.ErrMany
			} else {
				was[name] = all
			}
		case 1:
			x, e = snaps.Revert(m, name)
			if !there {
				want = api.ErrNone
			} else {
				all = old
			}
		default:
			x, e = snaps.Delete(m, name)
			if !there {
				want = api.ErrNone
			}
			delete(was, name)
		}
		if e != want {
			t.Fatalf("step %d: %d, not %d", i, e, want)
		}
		if e == api.OK {
			m = x
		}
		asIt(t, i, m, all, was)
	}
}

// asIt: the image is right, so that nothing leaks; it, and its snapshots, are read so.
func asIt(t *testing.T, i int, m api.Image, all []string, was map[string][]string) {
	t.Helper()
	if l, e := reads.All(m); !slices.Equal(l, all) || e != api.OK {
		t.Fatalf("step %d: %q %d, not %q", i, l, e, all)
	}
	if len(m.Snaps) != len(was) {
		t.Fatalf("step %d: %d snapshots, not %d", i, len(m.Snaps), len(was))
	}
	for name, want := range was {
		if l, e := reads.Past(m, name); !slices.Equal(l, want) || e != api.OK {
			t.Fatalf("step %d: %s: %q %d, not %q", i, name, l, e, want)
		}
	}
}

// TestH2Back: a snapshot made, and gone with nothing written since, leaves nothing over.
func TestH2Back(t *testing.T) {
	m, _ := snaps.Create(sample(), "new")
	x, e := snaps.Delete(m, "new")
	is(t, "deleted", x, e, sample())
	y, e := writes.Write(m, 0, "zzzz")
	if e != api.OK {
		t.Fatalf("Write: %d", e)
	}
	y, e = snaps.Revert(y, "new")
	if e != api.OK {
		t.Fatalf("Revert: %d", e)
	}
	y, e = snaps.Delete(y, "new")
	if n, _ := slots.Used(y.Slots); n != 6 || e != api.OK {
		t.Errorf("%d slots used, %d", n, e)
	}
	want, _ := reads.All(sample())
	if l, _ := reads.All(y); !slices.Equal(l, want) {
		t.Errorf("%q, not %q", l, want)
	}
}

// roomy: a copy of l with spare room behind it, which holds fill.
func roomy[T any](l []T, fill T) []T {
	return append(slices.Clone(l), fill, fill)[:len(l)]
}

// roomySample: the sample, in which each list has spare room.
func roomySample() api.Image {
	m := sample()
	m.Root, m.Refs = roomy(m.Root, 77), roomy(m.Refs, 77)
	for i, s := range m.Slots {
		m.Slots[i].Table = roomy(s.Table, 77)
	}
	for i, s := range m.Snaps {
		m.Snaps[i].Root = roomy(s.Root, 77)
	}
	m.Slots, m.Snaps = roomy(m.Slots, data("room")), roomy(m.Snaps, api.Snap{Name: "room"})
	return m
}

// whole: the image with all the room of its lists, deeply copied.
func whole(m api.Image) api.Image {
	m.Root, m.Refs = slices.Clone(m.Root[:cap(m.Root)]), slices.Clone(m.Refs[:cap(m.Refs)])
	m.Slots, m.Snaps = slices.Clone(m.Slots[:cap(m.Slots)]), slices.Clone(m.Snaps[:cap(m.Snaps)])
	for i, s := range m.Slots {
		m.Slots[i].Table = slices.Clone(s.Table[:cap(s.Table)])
	}
	for i, s := range m.Snaps {
		m.Snaps[i].Root = slices.Clone(s.Root[:cap(s.Root)])
	}
	return m
}

// spoil: each number of each list gets that of its list; then each list must have its own.
func spoil(t *testing.T, name string, m api.Image) {
	t.Helper()
	lists := [][]int{m.Root[:cap(m.Root)], m.Refs[:cap(m.Refs)]}
	for _, s := range m.Slots {
		lists = append(lists, s.Table[:cap(s.Table)])
	}
	for _, s := range m.Snaps {
		lists = append(lists, s.Root[:cap(s.Root)])
	}
	for i, l := range lists {
		for k := range l {
			l[k] = 1000 + i
		}
	}
	for i, l := range lists {
		if slices.ContainsFunc(l, func(k int) bool { return k != 1000+i }) {
			t.Errorf("%s: two lists share memory: %v", name, lists)
		}
	}
	for i := range m.Slots[:cap(m.Slots)] {
		m.Slots[:cap(m.Slots)][i].Data = "mine"
	}
	for i := range m.Snaps[:cap(m.Snaps)] {
		m.Snaps[:cap(m.Snaps)][i].Name = "mine"
	}
}

func TestP2(t *testing.T) {
	for _, s := range []string{"a", "e", "ea", "em", "new", ""} {
		for name, f := range calls() {
			m := roomySample()
			was := whole(m)
			x, _ := f(m, s)
			y, _ := f(m, s)
			if !reflect.DeepEqual(x, y) {
				t.Errorf("%s %s: %+v, then %+v", name, s, x, y)
			}
			spoil(t, name, x)
			if !reflect.DeepEqual(whole(m), was) {
				t.Errorf("%s %s: what was handed in is changed: %+v", name, s, m)
			}
			spoil(t, name, m)
			if z, _ := f(roomySample(), s); !reflect.DeepEqual(y, z) {
				t.Errorf("%s %s: a later change is seen: %+v, not %+v", name, s, y, z)
			}
		}
	}
}
