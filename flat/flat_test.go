package flat_test

import (
	"math"
	"slices"
	"strings"
	"testing"

	"slipsheet/api"
	"slipsheet/flat"
)

const zero = "\x00\x00\x00\x00"

// many: n pages of letters.
func many(n int) []string {
	l := make([]string, n)
	for i := range l {
		l[i] = strings.Repeat(string(rune('a'+i)), api.Page)
	}
	return l
}

// wrongs: lists that are no flat image, with pages.Check's error of each.
func wrongs() map[api.Errno][]string {
	return map[api.Errno][]string{
		api.ErrForm: {"aaaa", "bbb", "cccc"},
		api.ErrMany: make([]string, api.MaxGuest+1),
	}
}

func TestB1Read(t *testing.T) {
	for _, c := range []struct {
		l    []string
		n    int
		want string
		e    api.Errno
	}{
		{many(3), 0, "aaaa", api.OK},
		{many(3), 1, "bbbb", api.OK},
		{many(3), 2, "cccc", api.OK},
		{many(3), 3, "", api.ErrRange},
		{many(3), -1, "", api.ErrRange},
		{many(3), math.MinInt, "", api.ErrRange},
		{many(3), math.MaxInt, "", api.ErrRange},
		{[]string{zero}, 0, zero, api.OK},
		{nil, 0, "", api.ErrRange},
		{[]string{}, 0, "", api.ErrRange},
		{many(api.MaxGuest), api.MaxGuest - 1, "pppp", api.OK},
		{many(api.MaxGuest), api.MaxGuest, "", api.ErrRange},
		{many(api.MaxGuest + 1), 0, "", api.ErrMany},
		{append(many(2), "cc"), 0, "", api.ErrForm},
	} {
		if got, e := flat.Read(c.l, c.n); got != c.want || e != c.e {
			t.Errorf("%q %d: %q %d, not %q %d", c.l, c.n, got, e, c.want, c.e)
		}
	}
}

func TestB1Write(t *testing.T) {
	for _, c := range []struct {
		l    []string
		n    int
		page string
		want []string
		e    api.Errno
	}{
		{many(3), 0, "yyyy", []string{"yyyy", "bbbb", "cccc"}, api.OK},
		{many(3), 1, zero, []string{"aaaa", zero, "cccc"}, api.OK},
		{many(3), 2, "yyyy", []string{"aaaa", "bbbb", "yyyy"}, api.OK},
		{many(3), 3, "yyyy", nil, api.ErrRange},
		{many(3), -1, "yyyy", nil, api.ErrRange},
		{many(3), math.MinInt, "yyyy", nil, api.ErrRange},
		{many(3), math.MaxInt, "yyyy", nil, api.ErrRange},
		{nil, 0, "yyyy", nil, api.ErrRange},
		{many(3), 0, "", nil, api.ErrForm},
		{many(3), 0, "yyy", nil, api.ErrForm},
		{many(3), 2, "yyyyy", nil, api.ErrForm},
		{many(3), 3, "yyy", nil, api.ErrRange},
		{nil, 0, "", nil, api.ErrRange},
		{many(api.MaxGuest), api.MaxGuest - 1, "yyyy", append(many(api.MaxGuest-1), "yyyy"), api.OK},
		{many(api.MaxGuest), api.MaxGuest, "yyyy", nil, api.ErrRange},
	} {
		if got, e := flat.Write(c.l, c.n, c.page); !slices.Equal(got, c.want) || e != c.e {
			t.Errorf("%q %d %q: %q %d, not %q %d", c.l, c.n, c.page, got, e, c.want, c.e)
		}
	}
}

func TestB1Resize(t *testing.T) {
	most := many(api.MaxGuest)
	allZero := slices.Repeat([]string{zero}, api.MaxGuest)
	for _, c := range []struct {
		l     []string
		guest int
		want  []string
		e     api.Errno
	}{
		{many(2), 3, []string{"aaaa", "bbbb", zero}, api.OK},
		{many(2), 2, many(2), api.OK},
		{many(2), 1, many(1), api.OK},
		{many(2), 0, nil, api.OK},
		{many(2), -1, nil, api.ErrRange},
		{many(2), math.MinInt, nil, api.ErrRange},
		{many(2), math.MaxInt, nil, api.ErrRange},
		{nil, 0, nil, api.OK},
		{nil, api.MaxGuest, allZero, api.OK},
		{[]string{}, api.MaxGuest + 1, nil, api.ErrRange},
		{most, api.MaxGuest, most, api.OK},
		{most, api.MaxGuest - 1, most[:api.MaxGuest-1], api.OK},
		{most, api.MaxGuest + 1, nil, api.ErrRange},
	} {
		if got, e := flat.Resize(c.l, c.guest); !slices.Equal(got, c.want) || e != c.e {
			t.Errorf("%q %d: %q %d, not %q %d", c.l, c.guest, got, e, c.want, c.e)
		}
	}
}

func TestB1ErrorOfTheListFirst(t *testing.T) {
	for want, l := range wrongs() {
		for _, n := range []int{-1, 0, api.MaxGuest + 1} {
			if p, e := flat.Read(l, n); p != "" || e != want {
				t.Errorf("Read %d pages, %d: %q %d, not %d", len(l), n, p, e, want)
			}
			if m, e := flat.Write(l, n, "y"); len(m) != 0 || e != want {
				t.Errorf("Write %d pages, %d: %q %d, not %d", len(l), n, m, e, want)
			}
			if m, e := flat.Resize(l, n); len(m) != 0 || e != want {
				t.Errorf("Resize %d pages, %d: %q %d, not %d", len(l), n, m, e, want)
			}
		}
	}
}

func TestP2OnlyRead(t *testing.T) {
	room := append(many(3), "room", "room")
	was := slices.Clone(room)
	flat.Read(room[:3], 1)
	written, _ := flat.Write(room[:3], 1, "yyyy")
	same, _ := flat.Resize(room[:3], 3)
	less, _ := flat.Resize(room[:3], 2)
	more, _ := flat.Resize(room[:3], 5)
	if !slices.Equal(room, was) {
		t.Errorf("handed in %q, then it is %q", was, room)
	}
	for _, l := range [][]string{written, same, less, more} {
		told := slices.Clone(l)
		room[0] = "later"
		if !slices.Equal(l, told) {
			t.Errorf("a later change is seen: %q", l)
		}
		copy(room, was)
		for i := range l {
			l[i] = "mine"
		}
		_ = append(l, "mine")
		if !slices.Equal(room, was) {
			t.Errorf("an answer is not new memory: %q", room)
		}
	}
}
