package change_test

import (
	"reflect"
	"slices"
	"testing"

	"slipsheet/api"
	"slipsheet/change"
	"slipsheet/tree"
)

func data(s string) api.Slot { return api.Slot{Kind: api.Data, Data: s} }
func table(t ...int) api.Slot {
	return api.Slot{Kind: api.Table, Table: t}
}

// sample: six pages in two tables, the first one a snapshot's too; slot 3 is free.
func sample() api.Image {
	return api.Image{
		Guest: 6, Root: []int{2, 5},
		Slots: []api.Slot{{}, data("aaaa"), table(1, 0, -1, 1), {}, data("bbbb"), table(4, 0, 0, 0)},
		Refs:  []int{0, 2, 2, 0, 1, 1},
		Snaps: []api.Snap{{Name: "old", Guest: 4, Root: []int{2}}},
	}
}

func nothing(*change.Desk) {}

func TestG2NothingChanged(t *testing.T) {
	if m, e := change.Of(sample(), nothing); !reflect.DeepEqual(m, sample()) || e != api.OK {
		t.Errorf("%+v %d", m, e)
	}
}

// TestG2Settled: counts, and which slots are free, hang on what is told, not on what Refs were.
func TestG2Settled(t *testing.T) {
	m, e := change.Of(sample(), func(d *change.Desk) {
		d.Root[1], d.Refs[2] = 0, 77
		d.Slots[2].Table[3] = api.Blank
	})
	want := sample()
	want.Root = []int{2, 0}
	want.Slots = []api.Slot{{}, data("aaaa"), table(1, 0, -1, -1), {}, {}, {}}
	want.Refs = []int{0, 1, 2, 0, 0, 0}
	if !reflect.DeepEqual(m, want) || e != api.OK {
		t.Errorf("%+v %d, not %+v", m, e, want)
	}
}

func TestG2Take(t *testing.T) {
	var took []int
	m, e := change.Of(sample(), func(d *change.Desk) {
		for _, s := range []string{"cccc", "dddd", "eeee"} {
			took = append(took, d.Take(data(s)))
		}
		d.Slots[5].Table = []int{4, took[1], 0, 0}
	})
	if !slices.Equal(took, []int{3, 6, 7}) {
		t.Errorf("slots %v", took)
	}
	if want := []int{0, 2, 2, 0, 1, 1, 1, 0}; !slices.Equal(m.Refs, want) || e != api.OK {
		t.Errorf("Refs %v %d, not %v", m.Refs, e, want)
	}
	if len(m.Slots) != 8 || m.Slots[6].Data != "dddd" || m.Slots[7].Kind != api.Free || tree.Check(m) != api.OK {
		t.Errorf("%+v", m)
	}
}

// TestG1Full: sample has four slots that are used, so 35 are left.
func TestG1Full(t *testing.T) {
	for _, c := range []struct {
		n, slots int
		e        api.Errno
	}{{34, 39, api.OK}, {35, 40, api.OK}, {36, 0, api.ErrFull}, {99, 0, api.ErrFull}} {
		m, e := change.Of(sample(), func(d *change.Desk) {
			for range c.n {
				d.Take(data("more"))
			}
		})
		if len(m.Slots) != c.slots || e != c.e {
			t.Errorf("%d taken: %d slots, %d, not %d, %d", c.n, len(m.Slots), e, c.slots, c.e)
		}
		if e != api.OK && !reflect.DeepEqual(m, api.Image{}) {
			t.Errorf("%d taken: an error, and %+v", c.n, m)
		}
	}
}

func TestShapesErrors(t *testing.T) {
	for want, turn := range map[api.Errno]func(d *change.Desk){
		api.ErrMany:  func(d *change.Desk) { d.Snaps = make([]api.Snap, 4) },
		api.ErrForm:  func(d *change.Desk) { d.Root = nil },
		api.ErrRange: func(d *change.Desk) { d.Guest = -1 },
	} {
		if m, e := change.Of(sample(), turn); !reflect.DeepEqual(m, api.Image{}) || e != want {
			t.Errorf("%+v %d, not %d", m, e, want)
		}
	}
}

// TestFaultsStay: only the want of a slot is told as ErrFull.
func TestFaultsStay(t *testing.T) {
	defer func() {
		if r := recover(); r != "a fault" {
			t.Errorf("%v", r)
		}
	}()
	_, e := change.Of(sample(), func(*change.Desk) { panic("a fault") })
	t.Errorf("it went on: %d", e)
}

func TestP2OnlyRead(t *testing.T) {
	m := sample()
	out, _ := change.Of(m, func(d *change.Desk) {
		d.Root[0], d.Refs[1], d.Guest = 2, 9, 5
		d.Slots[2].Table[0], d.Slots[1].Data = 4, "zzzz"
		d.Snaps[0].Name, d.Snaps[0].Root[0] = "new", 5
		d.Snaps[0].Guest = 1
	})
	if !reflect.DeepEqual(m, sample()) {
		t.Errorf("changed: %+v", m)
	}
	if tree.Check(out) != api.OK {
		t.Errorf("not right: %+v", out)
	}
}
