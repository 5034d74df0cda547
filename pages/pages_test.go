package pages_test

import (
	"math"
	"slices"
	"strings"
	"testing"

	"slipsheet/api"
	"slipsheet/pages"
)

// many: n pages of letters.
func many(n int) []string {
	l := make([]string, n)
	for i := range l {
		l[i] = strings.Repeat(string(rune('a'+i)), api.Page)
	}
	return l
}

// spoilt: n pages, of which the one at number at is p.
func spoilt(n, at int, p string) []string {
	l := many(n)
	l[at] = p
	return l
}

func TestA1Check(t *testing.T) {
	last := api.MaxGuest - 1
	for _, c := range []struct {
		name string
		l    []string
		want api.Errno
	}{
		{"nil", nil, api.OK},
		{"empty", []string{}, api.OK},
		{"one", many(1), api.OK},
		{"any bytes", []string{"\x00\xff\n\x80"}, api.OK},
		{"one less than the most", many(api.MaxGuest - 1), api.OK},
		{"the most", many(api.MaxGuest), api.OK},
		{"one more than the most", many(api.MaxGuest + 1), api.ErrMany},
		{"an empty page", []string{""}, api.ErrForm},
		{"a byte less", []string{"abc"}, api.ErrForm},
		{"a byte more", []string{"abcde"}, api.ErrForm},
		{"four runes, more bytes", []string{"abc\u00e4"}, api.ErrForm},
		{"the first one", spoilt(api.MaxGuest, 0, "abc"), api.ErrForm},
		{"the last one", spoilt(api.MaxGuest, last, "abcde"), api.ErrForm},
		{"too many ahead of a wrong one", spoilt(api.MaxGuest+1, 0, "abc"), api.ErrMany},
	} {
		if got := pages.Check(c.l); got != c.want {
			t.Errorf("%s: %d, not %d", c.name, got, c.want)
		}
	}
}

func TestA1Zero(t *testing.T) {
	if got := pages.Zero(); got != "\x00\x00\x00\x00" {
		t.Errorf("%q", got)
	}
}

func TestA2Split(t *testing.T) {
	most := strings.Join(many(api.MaxGuest), "")
	for _, c := range []struct {
		s    string
		want []string
	}{
		{"", nil},
		{"a", []string{"a\x00\x00\x00"}},
		{"abc", []string{"abc\x00"}},
		{"abcd", []string{"abcd"}},
		{"abcde", []string{"abcd", "e\x00\x00\x00"}},
		{"abcdef", []string{"abcd", "ef\x00\x00"}},
		{"abcdefgh", []string{"abcd", "efgh"}},
		{"\x00", []string{"\x00\x00\x00\x00"}},
		{most, many(api.MaxGuest)},
		{most[:len(most)-1], spoilt(api.MaxGuest, api.MaxGuest-1, "ppp\x00")},
		{most[:len(most)-api.Page], many(api.MaxGuest - 1)},
	} {
		got, e := pages.Split(c.s)
		if e != api.OK || !slices.Equal(got, c.want) {
			t.Errorf("%q: %q %d, not %q", c.s, got, e, c.want)
		}
	}
	for _, s := range []string{most + "x", most + most} {
		if got, e := pages.Split(s); e != api.ErrMany || len(got) != 0 {
			t.Errorf("%d bytes: %q %d", len(s), got, e)
		}
	}
}

func TestA2Join(t *testing.T) {
	for _, c := range []struct {
		l    []string
		want string
		e    api.Errno
	}{
		{nil, "", api.OK},
		{[]string{}, "", api.OK},
		{[]string{"abcd"}, "abcd", api.OK},
		{[]string{"efgh", "\x00\x00\x00\x00", "abcd"}, "efgh\x00\x00\x00\x00abcd", api.OK},
		{many(api.MaxGuest), "aaaabbbbccccddddeeeeffffgggghhhhiiiijjjjkkkkllllmmmmnnnnoooopppp", api.OK},
		{many(api.MaxGuest + 1), "", api.ErrMany},
		{make([]string, api.MaxGuest+1), "", api.ErrMany},
		{[]string{"abcd", "abc"}, "", api.ErrForm},
		{[]string{"abcde", "abc"}, "", api.ErrForm},
	} {
		if got, e := pages.Join(c.l); got != c.want || e != c.e {
			t.Errorf("%q: %q %d, not %q %d", c.l, got, e, c.want, c.e)
		}
	}
}

func TestA2Patch(t *testing.T) {
	for _, c := range []struct {
		page string
		at   int
		s    string
		want string
		e    api.Errno
	}{
		{"abcd", 0, "", "abcd", api.OK},
		{"abcd", 0, "1", "1bcd", api.OK},
		{"abcd", 0, "1234", "1234", api.OK},
		{"abcd", 0, "12345", "", api.ErrRange},
		{"abcd", 1, "12", "a12d", api.OK},
		{"abcd", 1, "123", "a123", api.OK},
		{"abcd", 1, "1234", "", api.ErrRange},
		{"abcd", api.Page - 1, "\x00", "abc\x00", api.OK},
		{"abcd", api.Page - 1, "12", "", api.ErrRange},
		{"abcd", api.Page, "", "abcd", api.OK},
		{"abcd", api.Page, "1", "", api.ErrRange},
		{"abcd", api.Page + 1, "", "", api.ErrRange},
		{"abcd", -1, "", "", api.ErrRange},
		{"abcd", -1, "12345", "", api.ErrRange},
		{"abcd", math.MinInt, "1", "", api.ErrRange},
		{"abcd", math.MaxInt, "1", "", api.ErrRange},
		{"", 0, "", "", api.ErrForm},
		{"abc", 3, "d", "", api.ErrForm},
		{"abcde", 0, "1", "", api.ErrForm},
		{"abc", -1, "12345", "", api.ErrForm},
		{"abcde", math.MaxInt, "", "", api.ErrForm},
	} {
		if got, e := pages.Patch(c.page, c.at, c.s); got != c.want || e != c.e {
			t.Errorf("%q %d %q: %q %d, not %q %d", c.page, c.at, c.s, got, e, c.want, c.e)
		}
	}
}

func TestP2OnlyRead(t *testing.T) {
	room := append(many(3), "room", "room")
	was := slices.Clone(room)
	pages.Check(room[:3])
	joined, _ := pages.Join(room[:3])
	if !slices.Equal(room, was) {
		t.Errorf("handed in %q, then it is %q", was, room)
	}
	room[0] = "zzzz"
	if joined != "aaaabbbbcccc" {
		t.Errorf("a later change is seen: %q", joined)
	}
}

func TestP3NothingKept(t *testing.T) {
	first, _ := pages.Split("abcdef")
	first[0], first[1] = "zzzz", "zzzz"
	second, e := pages.Split("abcdef")
	if e != api.OK || !slices.Equal(second, []string{"abcd", "ef\x00\x00"}) {
		t.Errorf("asked again: %q %d", second, e)
	}
}
