package entry_test

import (
	"math"
	"slices"
	"testing"

	"slipsheet/api"
	"slipsheet/entry"
)

// wrongs: lists that are no entries.
func wrongs() [][]int {
	return [][]int{
		nil,
		{},
		{1, 2, 3},
		{1, 2, 3, 4, 5},
		{0, 0, 0},
		{0, 0, 0, 0, 0},
		{-2, 0, 0, 0},
		{0, 0, 0, -2},
		{api.MaxSlots, 0, 0, 0},
		{1, 1, 1, api.MaxSlots},
		{0, math.MinInt, 0, 0},
		{0, 0, math.MaxInt, 0},
	}
}

func TestD1Check(t *testing.T) {
	for _, l := range [][]int{
		{0, 0, 0, 0},
		{-1, -1, -1, -1},
		{1, 2, 3, 4},
		{1, 1, 1, 1},
		{api.Hole, api.Blank, 1, api.MaxSlots - 1},
		{api.MaxSlots - 1, 0, 0, 0},
	} {
		if e := entry.Check(l); e != api.OK {
			t.Errorf("%v: %d", l, e)
		}
	}
	for _, l := range wrongs() {
		if e := entry.Check(l); e != api.ErrForm {
			t.Errorf("%v: %d", l, e)
		}
	}
}

func TestD1Bare(t *testing.T) {
	for _, c := range []struct {
		l    []int
		want bool
	}{
		{[]int{0, 0, 0, 0}, true},
		{[]int{1, 0, 0, 0}, false},
		{[]int{0, 0, 0, 1}, false},
		{[]int{-1, 0, 0, 0}, false},
		{[]int{0, 0, 0, -1}, false},
		{[]int{-1, -1, -1, -1}, false},
		{[]int{1, 2, 3, 4}, false},
	} {
		if got, e := entry.Bare(c.l); got != c.want || e != api.OK {
			t.Errorf("%v: %v %d", c.l, got, e)
		}
	}
}

func TestD1With(t *testing.T) {
	for _, c := range []struct {
		k, x int
		want []int
		e    api.Errno
	}{
		{0, 9, []int{9, 2, 3, 4}, api.OK},
		{1, api.Hole, []int{1, 0, 3, 4}, api.OK},
		{api.Fan - 2, api.Blank, []int{1, 2, -1, 4}, api.OK},
		{api.Fan - 1, 1, []int{1, 2, 3, 1}, api.OK},
		{0, 1, []int{1, 2, 3, 4}, api.OK},
		{0, api.MaxSlots - 2, []int{38, 2, 3, 4}, api.OK},
		{0, api.MaxSlots - 1, []int{39, 2, 3, 4}, api.OK},
		{0, api.MaxSlots, nil, api.ErrForm},
		{0, -2, nil, api.ErrForm},
		{api.Fan - 1, math.MinInt, nil, api.ErrForm},
		{api.Fan - 1, math.MaxInt, nil, api.ErrForm},
		{-1, 9, nil, api.ErrRange},
		{api.Fan, 9, nil, api.ErrRange},
		{math.MinInt, 9, nil, api.ErrRange},
		{math.MaxInt, 9, nil, api.ErrRange},
		{-1, -2, nil, api.ErrRange},
		{api.Fan, api.MaxSlots, nil, api.ErrRange},
	} {
		if got, e := entry.With([]int{1, 2, 3, 4}, c.k, c.x); !slices.Equal(got, c.want) || e != c.e {
			t.Errorf("%d %d: %v %d, not %v %d", c.k, c.x, got, e, c.want, c.e)
		}
	}
}

func TestD1Cut(t *testing.T) {
	for _, c := range []struct {
		l    []int
		n    int
		want []int
		e    api.Errno
	}{
		{[]int{1, 2, 3, 4}, 0, []int{0, 0, 0, 0}, api.OK},
		{[]int{1, 2, 3, 4}, 1, []int{1, 0, 0, 0}, api.OK},
		{[]int{1, 2, 3, 4}, 2, []int{1, 2, 0, 0}, api.OK},
		{[]int{1, 2, 3, 4}, api.Fan - 1, []int{1, 2, 3, 0}, api.OK},
		{[]int{1, 2, 3, 4}, api.Fan, []int{1, 2, 3, 4}, api.OK},
		{[]int{-1, 0, -1, -1}, 3, []int{-1, 0, -1, 0}, api.OK},
		{[]int{1, 2, 3, 4}, api.Fan + 1, nil, api.ErrRange},
		{[]int{1, 2, 3, 4}, -1, nil, api.ErrRange},
		{[]int{1, 2, 3, 4}, math.MinInt, nil, api.ErrRange},
		{[]int{1, 2, 3, 4}, math.MaxInt, nil, api.ErrRange},
	} {
		if got, e := entry.Cut(c.l, c.n); !slices.Equal(got, c.want) || e != c.e {
			t.Errorf("%v %d: %v %d, not %v %d", c.l, c.n, got, e, c.want, c.e)
		}
	}
}

func TestD1ErrorOfTheEntriesFirst(t *testing.T) {
	for _, l := range wrongs() {
		if b, e := entry.Bare(l); b || e != api.ErrForm {
			t.Errorf("Bare %v: %v %d", l, b, e)
		}
		for _, n := range []int{-1, 0, api.Fan, api.Fan + 1} {
			if m, e := entry.With(l, n, 1); len(m) != 0 || e != api.ErrForm {
				t.Errorf("With %v %d: %v %d", l, n, m, e)
			}
			if m, e := entry.Cut(l, n); len(m) != 0 || e != api.ErrForm {
				t.Errorf("Cut %v %d: %v %d", l, n, m, e)
			}
		}
	}
}

func TestP2OnlyRead(t *testing.T) {
	room := []int{1, 2, 3, 4, 5, 6}
	was := slices.Clone(room)
	entry.Check(room[:4])
	entry.Bare(room[:4])
	with, _ := entry.With(room[:4], 2, 9)
	whole, _ := entry.Cut(room[:4], 4)
	less, _ := entry.Cut(room[:4], 2)
	if !slices.Equal(room, was) {
		t.Errorf("handed in %v, then it is %v", was, room)
	}
	for _, l := range [][]int{with, whole, less} {
		told := slices.Clone(l)
		room[0] = 7
		if !slices.Equal(l, told) {
			t.Errorf("a later change is seen: %v", l)
		}
		copy(room, was)
		for i := range l {
			l[i] = 8
		}
		_ = append(l, 8)
		if !slices.Equal(room, was) {
			t.Errorf("an answer is not new memory: %v", room)
		}
	}
}
