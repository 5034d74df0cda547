package slots_test

import (
	"math"
	"reflect"
	"slices"
	"testing"

	"slipsheet/api"
	"slipsheet/slots"
)

func free() api.Slot  { return api.Slot{} }
func data() api.Slot  { return api.Slot{Kind: api.Data, Data: "data"} }
func table() api.Slot { return api.Slot{Kind: api.Table, Table: []int{1, 0, -1, 39}} }

// full: n slots, all used but the first one.
func full(n int) []api.Slot {
	l := slices.Repeat([]api.Slot{data()}, n)
	l[0] = free()
	return l
}

// with: a copy of l in which slot n is s.
func with(l []api.Slot, n int, s api.Slot) []api.Slot {
	l = slices.Clone(l)
	l[n] = s
	return l
}

func TestC1Right(t *testing.T) {
	for _, s := range []api.Slot{
		free(),
		{Kind: api.Free, Table: []int{}},
		data(),
		{Kind: api.Data, Data: "\x00\x00\x00\x00", Table: []int{}},
		table(),
		{Kind: api.Table, Table: []int{1, 1, 1, 1}},
		{Kind: api.Table, Table: []int{api.Blank, 0, 0, 0}},
		{Kind: api.Table, Table: []int{0, 0, 0, api.Blank}},
		{Kind: api.Table, Table: []int{0, 0, 0, 1}},
		{Kind: api.Table, Table: []int{api.MaxSlots - 1, 0, 0, 0}},
	} {
		if e := slots.Check(s); e != api.OK {
			t.Errorf("%+v: %d", s, e)
		}
	}
}

// wrongs: slots that are not right.
func wrongs() []api.Slot {
	return []api.Slot{
		{Kind: api.Free, Data: "data"},
		{Kind: api.Free, Data: "\x00"},
		{Kind: api.Free, Table: []int{1, 0, 0, 0}},
		{Kind: api.Free, Table: []int{0}},
		{Kind: api.Data},
		{Kind: api.Data, Data: "dat"},
		{Kind: api.Data, Data: "datas"},
		{Kind: api.Data, Data: "data", Table: []int{1, 0, 0, 0}},
		{Kind: api.Data, Data: "data", Table: []int{0}},
		{Kind: api.Table},
		{Kind: api.Table, Table: []int{}},
		{Kind: api.Table, Table: []int{1, 2, 3}},
		{Kind: api.Table, Table: []int{1, 2, 3, 4, 5}},
		{Kind: api.Table, Table: []int{0, 0, 0, 0}},
		{Kind: api.Table, Table: []int{1, 0, 0, -2}},
		{Kind: api.Table, Table: []int{api.MaxSlots, 0, 0, 0}},
		{Kind: api.Table, Table: []int{1, math.MaxInt, math.MinInt, 0}},
		{Kind: api.Table, Table: []int{1, 0, 0, 0}, Data: "data"},
		{Kind: api.Table, Table: []int{1, 0, 0, 0}, Data: "\x00"},
		{Kind: -1},
		{Kind: 3},
		{Kind: 3, Data: "data"},
		{Kind: 3, Table: []int{1, 0, 0, 0}},
		{Kind: math.MinInt},
		{Kind: math.MaxInt},
	}
}

func TestC1Wrong(t *testing.T) {
	for _, s := range wrongs() {
		if e := slots.Check(s); e != api.ErrForm {
			t.Errorf("%+v: %d", s, e)
		}
	}
}

func TestC2Ordinary(t *testing.T) {
	most := full(api.MaxSlots)
	for _, c := range []struct {
		name       string
		l          []api.Slot
		grab, used int
	}{
		{"one slot", full(1), 1, 0},
		{"an empty table handed in", []api.Slot{{Table: []int{}}}, 1, 0},
		{"the third of four", []api.Slot{free(), data(), free(), table()}, 2, 2},
		{"the second", []api.Slot{free(), free(), table()}, 1, 1},
		{"the least of two", []api.Slot{free(), table(), free(), data(), free()}, 2, 2},
		{"used to its end", []api.Slot{free(), data(), table()}, 3, 2},
		{"used to its end, one less than the most", full(api.MaxSlots - 1), api.MaxSlots - 1, api.MaxSlots - 2},
		{"the most, the last one free", with(most, api.MaxSlots-1, free()), api.MaxSlots - 1, api.MaxSlots - 2},
		{"the most, the second one free", with(most, 1, free()), 1, api.MaxSlots - 2},
		{"the most, all free", make([]api.Slot, api.MaxSlots), 1, 0},
	} {
		if n, e := slots.Grab(c.l); n != c.grab || e != api.OK {
			t.Errorf("%s: Grab %d %d, not %d", c.name, n, e, c.grab)
		}
		if n, e := slots.Used(c.l); n != c.used || e != api.OK {
			t.Errorf("%s: Used %d %d, not %d", c.name, n, e, c.used)
		}
	}
}

func TestC2Full(t *testing.T) {
	l := full(api.MaxSlots)
	if n, e := slots.Grab(l); n != 0 || e != api.ErrFull {
		t.Errorf("Grab: %d %d", n, e)
	}
	if n, e := slots.Used(l); n != api.MaxSlots-1 || e != api.OK {
		t.Errorf("Used: %d %d", n, e)
	}
}

// refused: both calls answer nothing but that error.
func refused(t *testing.T, name string, l []api.Slot, want api.Errno) {
	t.Helper()
	if n, e := slots.Grab(l); n != 0 || e != want {
		t.Errorf("%s: Grab %d %d, not %d", name, n, e, want)
	}
	if n, e := slots.Used(l); n != 0 || e != want {
		t.Errorf("%s: Used %d %d, not %d", name, n, e, want)
	}
}

func TestC2Wrong(t *testing.T) {
	most, wrong := full(api.MaxSlots), api.Slot{Kind: 3}
	refused(t, "nil", nil, api.ErrMany)
	refused(t, "none", []api.Slot{}, api.ErrMany)
	refused(t, "one more than the most", full(api.MaxSlots+1), api.ErrMany)
	refused(t, "one more than the most, all free", make([]api.Slot, api.MaxSlots+1), api.ErrMany)
	refused(t, "too many ahead of a wrong one", with(full(api.MaxSlots+1), 1, wrong), api.ErrMany)
	refused(t, "too many ahead of a first one that is used", with(full(api.MaxSlots+1), 0, data()), api.ErrMany)
	refused(t, "the first one is used", []api.Slot{data()}, api.ErrForm)
	refused(t, "the first one is a table", []api.Slot{table(), free()}, api.ErrForm)
	refused(t, "the first one is wrong", []api.Slot{wrong, free()}, api.ErrForm)
	refused(t, "wrong ahead of full", with(most, api.MaxSlots-1, wrong), api.ErrForm)
	refused(t, "wrong behind a free one", []api.Slot{free(), free(), wrong}, api.ErrForm)
	for _, s := range wrongs() {
		refused(t, "one that is wrong", []api.Slot{free(), data(), s, free()}, api.ErrForm)
	}
}

func TestP2OnlyRead(t *testing.T) {
	make5 := func() []api.Slot {
		entries := []int{1, 0, -1, 39, 77}[:4] // with spare room behind
		return []api.Slot{free(), data(), {Kind: api.Table, Table: entries}, data(), data()}
	}
	room := make5()
	slots.Check(room[2])
	slots.Grab(room[:3])
	slots.Used(room[:3])
	if !reflect.DeepEqual(room, make5()) || room[2].Table[:5][4] != 77 {
		t.Errorf("what was handed in is changed: %+v", room)
	}
}
