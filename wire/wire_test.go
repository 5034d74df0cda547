package wire_test

import (
	"math"
	"reflect"
	"slices"
	"strings"
	"testing"

	"slipsheet/api"
	"slipsheet/tree"
	"slipsheet/wire"
)

func data(s string) api.Slot { return api.Slot{Kind: api.Data, Data: s} }
func table(t ...int) api.Slot {
	return api.Slot{Kind: api.Table, Table: t}
}

// blank: an image without slots that are used.
func blank(guest int) api.Image {
	return api.Image{Guest: guest, Root: make([]int, (guest+3)/4), Slots: make([]api.Slot, 1), Refs: make([]int, 1)}
}

// six: the document's image of six pages with two tables, one of which a snapshot tells too.
func six() api.Image {
	return api.Image{
		Guest: 6, Root: []int{2, 4},
		Slots: []api.Slot{{}, data("aaaa"), table(1, 0, -1, 1), data("bbbb"), table(3, 0, 0, 0)},
		Refs:  []int{0, 2, 2, 1, 1},
		Snaps: []api.Snap{{Name: "old", Guest: 4, Root: []int{2}}},
	}
}

const sixBytes = "\x06" + "\x05" + "\x00" + "\x01aaaa" + "\x02\x01\x00\xff\x01" + "\x01bbbb" + "\x02\x03\x00\x00\x00" + "\x01" + "\x03old\x04\x02" + "\x02\x04"

// sample: ten pages in two tables, with none between; the first one is a snapshot's too, which has one of its own; slots 1, 4, 5 and 10 are free.
func sample() api.Image {
	return api.Image{
		Guest: 10, Root: []int{9, 0, 6},
		Slots: []api.Slot{{}, {}, data("\x00\x00\x00\x00"), data("\xff\x00\x01\n"), {}, {}, table(7, 2, 0, 0), data("cccc"), table(3, 3, 7, 0), table(2, 0, -1, 3), {}},
		Refs:  []int{0, 0, 2, 3, 0, 0, 1, 2, 1, 2, 0},
		Snaps: []api.Snap{{Name: "new", Guest: 7, Root: []int{9, 8}}, {Name: "newer", Guest: 0}, {Name: "oldoldol", Guest: 8, Root: []int{0, 0}}},
	}
}

const sampleBytes = "\x0a" + "\x0b" + "\x00" + "\x00" + "\x01\x00\x00\x00\x00" + "\x01\xff\x00\x01\n" + "\x00\x00" + "\x02\x07\x02\x00\x00" + "\x01cccc" + "\x02\x03\x03\x07\x00" + "\x02\x02\x00\xff\x03" + "\x00" +
	"\x03" + "\x03new\x07\x09\x08" + "\x05newer\x00" + "\x08oldoldol\x08\x00\x00" + "\x09\x00\x06"

// far: the last two of as many slots as there may be are used.
func far() api.Image {
	m := blank(16)
	m.Slots, m.Refs, m.Root = make([]api.Slot, 40), make([]int, 40), []int{0, 39, 0, 39}
	m.Slots[39], m.Slots[38], m.Refs[39], m.Refs[38] = table(38, -1, 0, 38), data("last"), 2, 2
	return m
}

// full: all slots are used, and all three snapshots, of the longest names.
func full() (api.Image, string) {
	m, s := blank(16), "\x10\x28\x00"
	for k := 1; k < 40; k++ {
		if k%5 == 0 {
			m.Slots = append(m.Slots, table(k-4, k-3, k-2, k-1))
			s += "\x02" + string([]byte{byte(k - 4), byte(k - 3), byte(k - 2), byte(k - 1)})
		} else {
			m.Slots = append(m.Slots, data("page"))
			s += "\x01page"
		}
		m.Refs = append(m.Refs, 1)
	}
	m.Slots[39], m.Root = table(36, 37, 38, -1), []int{5, 10, 15, 20}
	s = s[:len(s)-5] + "\x02\x24\x25\x26\xff"
	m.Snaps = []api.Snap{{Name: "aaaaaaaa", Guest: 16, Root: []int{25, 30, 35, 39}}, {Name: "zzzzzzzy", Guest: 1, Root: []int{0}}, {Name: "zzzzzzzz", Guest: 16, Root: make([]int, 4)}}
	return m, s + "\x03\x08aaaaaaaa\x10\x19\x1e\x23\x27\x08zzzzzzzy\x01\x00\x08zzzzzzzz\x10\x00\x00\x00\x00\x05\x0a\x0f\x14"
}

type told struct {
	name  string
	m     api.Image
	bytes string
}

// pairs: images, and their bytes.
func pairs() []told {
	most, mostBytes := full()
	return []told{
		{"six pages", six(), sixBytes},
		{"the sample", sample(), sampleBytes},
		{"no pages", blank(0), "\x00\x01\x00\x00"},
		{"a page", blank(1), "\x01\x01\x00\x00\x00"},
		{"four pages", blank(4), "\x04\x01\x00\x00\x00"},
		{"five pages", blank(5), "\x05\x01\x00\x00\x00\x00"},
		{"the most pages", blank(16), "\x10\x01\x00\x00\x00\x00\x00\x00"},
		{"two of the most slots", far(), "\x10\x28" + strings.Repeat("\x00", 38) + "\x01last" + "\x02\x26\xff\x00\x26" + "\x00" + "\x00\x27\x00\x27"},
		{"the most of all", most, mostBytes},
		{"a snapshot of no pages", api.Image{Slots: make([]api.Slot, 1), Refs: make([]int, 1), Snaps: []api.Snap{{Name: "a"}}}, "\x00\x01\x00\x01\x01a\x00"},
		{"what a snapshot alone tells", api.Image{
			Slots: []api.Slot{{}, {}, table(-1, 3, 0, 0), data("past")}, Refs: []int{0, 0, 1, 1}, Snaps: []api.Snap{{Name: "old", Guest: 2, Root: []int{2}}},
		}, "\x00\x04\x00\x00\x02\xff\x03\x00\x00\x01past\x01\x03old\x02\x02"},
		{"blanks", api.Image{Guest: 4, Root: []int{1}, Slots: []api.Slot{{}, table(-1, -1, -1, -1)}, Refs: []int{0, 1}}, "\x04\x02\x00\x02\xff\xff\xff\xff\x00\x01"},
	}
}

// even: the image with nil for each list that is empty, so that two can be held against each other.
func even(m api.Image) api.Image {
	m.Root, m.Refs = slices.Concat(m.Root), slices.Concat(m.Refs)
	m.Slots, m.Snaps = slices.Concat(m.Slots), slices.Concat(m.Snaps)
	for i, s := range m.Slots {
		m.Slots[i].Table = slices.Concat(s.Table)
	}
	for i, s := range m.Snaps {
		m.Snaps[i].Root = slices.Concat(s.Root)
	}
	return m
}

func same(a, b api.Image) bool { return reflect.DeepEqual(even(a), even(b)) }

func TestL1Write(t *testing.T) {
	if len(sixBytes) != 32 {
		t.Errorf("the image has %d bytes", len(sixBytes))
	}
	for _, c := range pairs() {
		if s, e := wire.Write(c.m); e != api.OK || s != c.bytes {
			t.Errorf("%s: %q %d, not %q", c.name, s, e, c.bytes)
		}
	}
}

func TestL1Read(t *testing.T) {
	for _, c := range pairs() {
		if e := tree.Check(c.m); e != api.OK {
			t.Errorf("%s: what is wanted is not right: %d", c.name, e)
		}
		if m, e := wire.Read(c.bytes); e != api.OK || !same(m, c.m) {
			t.Errorf("%s: %+v %d, not %+v", c.name, m, e, c.m)
		}
	}
}

func TestL1WriteWrong(t *testing.T) {
	for _, c := range []struct {
		want api.Errno
		turn func(m *api.Image)
	}{
		{api.ErrMany, func(m *api.Image) { *m = api.Image{} }},
		{api.ErrMany, func(m *api.Image) { m.Slots = make([]api.Slot, 41) }},
		{api.ErrMany, func(m *api.Image) { m.Snaps = make([]api.Snap, 4) }},
		{api.ErrForm, func(m *api.Image) { m.Slots[2].Data = "aaa" }},
		{api.ErrForm, func(m *api.Image) { m.Slots[2].Data = "aaaaa" }},
		{api.ErrForm, func(m *api.Image) { m.Slots[1].Kind = 3 }},
		{api.ErrForm, func(m *api.Image) { m.Slots[1].Kind = 256 }},
		{api.ErrForm, func(m *api.Image) { m.Slots[1].Table = make([]int, 4) }},
		{api.ErrForm, func(m *api.Image) { m.Slots[0] = data("zero") }},
		{api.ErrForm, func(m *api.Image) { m.Slots[9].Table[0] = 1 }},
		{api.ErrForm, func(m *api.Image) { m.Slots[9].Table[0] = 258 }},
		{api.ErrForm, func(m *api.Image) { m.Slots[9].Table[2] = 255 }},
		{api.ErrForm, func(m *api.Image) { m.Refs = m.Refs[:10] }},
		{api.ErrForm, func(m *api.Image) { m.Snaps[2].Name = "new" }},
		{api.ErrForm, func(m *api.Image) { m.Snaps[2].Name = "oldoldold" }},
		{api.ErrForm, func(m *api.Image) { m.Snaps[0].Name = "" }},
		{api.ErrForm, func(m *api.Image) { m.Snaps[0].Root = nil }},
		{api.ErrForm, func(m *api.Image) { m.Root = append(m.Root, 0) }},
		{api.ErrForm, func(m *api.Image) { m.Root[1] = 2 }},
		{api.ErrForm, func(m *api.Image) { m.Root[1] = -1 }},
		{api.ErrForm, func(m *api.Image) { m.Guest = 9 }},
		{api.ErrRange, func(m *api.Image) { m.Guest = math.MinInt }},
		{api.ErrRange, func(m *api.Image) { m.Guest = 266 }},
		{api.ErrRange, func(m *api.Image) { m.Guest = 17 }},
		{api.ErrRange, func(m *api.Image) { m.Snaps[1].Guest = -1 }},
		{api.ErrRefs, func(m *api.Image) { m.Refs[1] = 1 }},
		{api.ErrRefs, func(m *api.Image) { m.Refs[0] = 1 }},
		{api.ErrRefs, func(m *api.Image) { m.Slots[1] = data("leak") }},
		{api.ErrRefs, func(m *api.Image) { m.Root[2] = 0 }},
		{api.ErrRefs, func(m *api.Image) { m.Snaps = nil }},
	} {
		m := sample()
		c.turn(&m)
		if s, e := wire.Write(m); s != "" || e != c.want {
			t.Errorf("%+v: %q %d, not %d", m, s, e, c.want)
		}
	}
}

func refused(t *testing.T, name, s string, want api.Errno) {
	t.Helper()
	if m, e := wire.Read(s); e != want || !reflect.DeepEqual(m, api.Image{}) {
		t.Errorf("%s: %q: %+v %d, not %d", name, s, m, e, want)
	}
}

func TestL1ReadWrong(t *testing.T) {
	for _, c := range []struct{ name, bytes string }{
		{"no slots", "\x00\x00\x00"},
		{"too many slots", "\x00\x29" + strings.Repeat("\x00", 41) + "\x00"},
		{"255 slots", "\x00\xff" + strings.Repeat("\x00", 255) + "\x00"},
		{"too many pages", "\x11\x01\x00\x00\x00\x00\x00\x00\x00"},
		{"255 pages", "\xff\x01\x00\x00" + strings.Repeat("\x00", 64)},
		{"255 pages, no Root", "\xff\x01\x00\x00"},
		{"a Root too long", "\x04\x01\x00\x00\x00\x00"},
		{"a Root too short", "\x05\x01\x00\x00\x00"},
		{"no such kind", "\x00\x02\x00\x03\x00"},
		{"no kind either", "\x00\x02\x00\xff\x00"},
		{"slot 0 is used", "\x01\x02\x01page\x02\x00\xff\x00\x00\x00\x01"},
		{"a page leaks", "\x00\x02\x00\x01page\x00"},
		{"a table leaks", "\x00\x02\x00\x02\xff\x00\x00\x00\x00"},
		{"a table of holes", "\x01\x02\x00\x02\x00\x00\x00\x00\x00\x01"},
		{"a table that tells itself", "\x01\x02\x00\x02\x01\x00\x00\x00\x00\x01"},
		{"a table that tells a free slot", "\x01\x03\x00\x02\x02\x00\x00\x00\x00\x00\x01"},
		{"a table that tells no slot", "\x01\x02\x00\x02\x02\x00\x00\x00\x00\x01"},
		{"a table that tells slot 254", "\x01\x02\x00\x02\xfe\x00\x00\x00\x00\x01"},
		{"an entry behind the last page", "\x03\x02\x00\x02\xff\x00\x00\xff\x00\x01"},
		{"a Root that tells a page", "\x01\x02\x00\x01page\x00\x01"},
		{"a Root that tells a free slot", "\x01\x02\x00\x00\x00\x01"},
		{"a Root that tells no slot", "\x01\x01\x00\x00\x01"},
		{"a Root that tells Blank", "\x01\x01\x00\x00\xff"},
		{"too many snapshots", "\x00\x01\x00\x04\x01a\x00\x01b\x00\x01c\x00\x01d\x00"},
		{"255 snapshots", "\x00\x01\x00\xff" + strings.Repeat("\x01a\x00", 255)},
		{"a snapshot without a name", "\x00\x01\x00\x01\x00\x00"},
		{"a name too long", "\x00\x01\x00\x01\x09aaaaaaaaa\x00"},
		{"a name longer than the bytes", "\x00\x01\x00\x01\xffaaaaaaaaa\x00"},
		{"no name", "\x00\x01\x00\x01\x01A\x00"},
		{"names twice", "\x00\x01\x00\x02\x01a\x00\x01a\x00"},
		{"names that fall", "\x00\x01\x00\x02\x02ab\x00\x01a\x00"},
		{"too many pages of a snapshot", "\x00\x01\x00\x01\x01a\x11\x00\x00\x00\x00\x00"},
		{"a snapshot that tells a page", "\x00\x02\x00\x01page\x01\x01a\x01\x01"},
		{"an entry behind a snapshot's last page", "\x00\x02\x00\x02\xff\xff\x00\x00\x01\x01a\x01\x01"},
	} {
		refused(t, c.name, c.bytes, api.ErrForm)
	}
}

// TestL1ReadCut: bytes that end early, or go on.
func TestL1ReadCut(t *testing.T) {
	for _, c := range pairs() {
		for i := range c.bytes {
			refused(t, c.name, c.bytes[:i], api.ErrForm)
		}
		for _, s := range []string{"\x00", "\x01", "\xff", "\n", c.bytes} {
			refused(t, c.name, c.bytes+s, api.ErrForm)
		}
	}
}

func TestL1ReadMany(t *testing.T) {
	for _, c := range []string{"a", "\x00", "\xff", "\x01"} {
		refused(t, "the most bytes", strings.Repeat(c, 4096), api.ErrForm)
		refused(t, "too many bytes", strings.Repeat(c, 4097), api.ErrMany)
	}
	refused(t, "an image, and bytes behind it", sixBytes+strings.Repeat("\x00", 4096-32), api.ErrForm)
	refused(t, "an image, and too many bytes behind it", sixBytes+strings.Repeat("\x00", 4097-32), api.ErrMany)
	refused(t, "very many bytes", strings.Repeat("\x00", 1<<20), api.ErrMany)
}

// draw: numbers, the same each time.
type draw uint64

func (d *draw) n(n int) int {
	*d = *d*6364136223846793005 + 1442695040888963407
	return int(uint64(*d) >> 33 % uint64(n))
}

// image: a right one, whose slots stand and are told at random.
func (d *draw) image() api.Image {
	m := api.Image{Guest: 4 * d.n(5), Slots: make([]api.Slot, 1)}
	var tables, pages []int
	for k := range d.n(40) {
		k++ // slot 0 is never used
		switch d.n(3) {
		case 0:
			tables = append(tables, k)
			m.Slots = append(m.Slots, table(-1, 0, 0, -1))
		case 1:
			pages = append(pages, k)
			m.Slots = append(m.Slots, data(string([]byte{byte(d.n(256)), byte(d.n(256)), 0, 255})))
		default:
			m.Slots = append(m.Slots, api.Slot{})
		}
	}
	one := func(l []int) int { return append(l, 0)[d.n(len(l)+1)] }
	for _, k := range tables {
		m.Slots[k].Table[d.n(3)], m.Slots[k].Table[1] = one(pages), one(pages)
	}
	for range m.Guest / 4 {
		m.Root = append(m.Root, one(tables))
	}
	for i := range d.n(4) {
		m.Snaps = append(m.Snaps, api.Snap{Name: "abcdefgh"[:i*2+1], Guest: 8, Root: []int{one(tables), one(tables)}})
	}
	m.Refs = make([]int, len(m.Slots))
	m.Refs, _ = tree.Counts(m)
	for k, n := range m.Refs {
		if n == 0 {
			m.Slots[k] = api.Slot{}
		}
	}
	return m
}

func TestL2Drawn(t *testing.T) {
	d := draw(3)
	for range 3000 {
		m := d.image()
		s, e := wire.Write(m)
		if e != api.OK {
			t.Fatalf("not written: %d, %+v", e, m)
		}
		if x, e := wire.Read(s); e != api.OK || !same(x, m) {
			t.Fatalf("%q: %+v %d, not %+v", s, x, e, m)
		}
	}
}

// nothingElse: what is read is right, and is written so; the answer is whether it is read.
func nothingElse(t *testing.T, s string) bool {
	t.Helper()
	m, e := wire.Read(s)
	if e == api.ErrForm && reflect.DeepEqual(m, api.Image{}) {
		return false
	}
	if c := tree.Check(m); e != api.OK || c != api.OK {
		t.Fatalf("%q: %+v %d, which is not right: %d", s, m, e, c)
	}
	if x, e := wire.Write(m); e != api.OK || x != s {
		t.Fatalf("%q is read, of which %q %d is written", s, x, e)
	}
	return true
}

// TestL2Turned: each byte of each image is each other one.
func TestL2Turned(t *testing.T) {
	n := 0
	for _, c := range pairs() {
		for i := range c.bytes {
			for b := range 256 {
				if nothingElse(t, c.bytes[:i]+string([]byte{byte(b)})+c.bytes[i+1:]) {
					n++
				}
			}
		}
	}
	if n < 10000 { // a page may be any bytes
		t.Errorf("%d are read", n)
	}
}

// TestL2Short: all bytes of a few kinds that are few; those that must be read are told one by one.
func TestL2Short(t *testing.T) {
	kinds := "\x00\x01\x02\x03\x04\xffa"
	var read []string
	all := []string{""}
	for range 6 {
		var longer []string
		for _, s := range all {
			for i := range kinds {
				x := s + kinds[i:i+1]
				longer = append(longer, x)
				if nothingElse(t, x) {
					read = append(read, x)
				}
			}
		}
		all = longer
	}
	want := []string{
		"\x00\x01\x00\x00",
		"\x00\x02\x00\x00\x00", "\x01\x01\x00\x00\x00", "\x02\x01\x00\x00\x00", "\x03\x01\x00\x00\x00", "\x04\x01\x00\x00\x00",
		"\x00\x03\x00\x00\x00\x00", "\x01\x02\x00\x00\x00\x00", "\x02\x02\x00\x00\x00\x00", "\x03\x02\x00\x00\x00\x00", "\x04\x02\x00\x00\x00\x00",
	}
	if !slices.Equal(read, want) {
		t.Errorf("%q are read, not %q", read, want)
	}
}

// TestL2Spoilt: images of which several bytes are changed, left out or put in.
func TestL2Spoilt(t *testing.T) {
	d, n := draw(4), 0
	for range 30000 {
		s, _ := wire.Write(d.image())
		b := []byte(s)
		for range 1 + d.n(3) {
			i := d.n(len(b))
			switch d.n(3) {
			case 0:
				b[i] = byte(d.n(6)) - 1
			case 1:
				b = append(slices.Delete(b, i, i+1), 0)
			default:
				b = slices.Insert(b, i, byte(d.n(6))-1)
			}
		}
		if nothingElse(t, string(b)) {
			n++
		}
	}
	if n < 100 || n > 29000 {
		t.Errorf("%d are read", n)
	}
}

// roomy: a copy of l with spare room behind it, which holds fill.
func roomy[T any](l []T, fill T) []T {
	return append(slices.Clone(l), fill, fill)[:len(l)]
}

// roomySample: the image, in which each list has spare room.
func roomySample(m api.Image) api.Image {
	m.Root, m.Refs = roomy(m.Root, 77), roomy(m.Refs, 77)
	for i, s := range m.Slots {
		m.Slots[i].Table = roomy(s.Table, 77)
	}
	for i, s := range m.Snaps {
		m.Snaps[i].Root = roomy(s.Root, 77)
	}
	m.Slots, m.Snaps = roomy(m.Slots, data("room")), roomy(m.Snaps, api.Snap{Name: "room"})
	return m
}

// whole: the image with all the room of its lists, deeply copied.
func whole(m api.Image) api.Image {
	m.Root, m.Refs = slices.Clone(m.Root[:cap(m.Root)]), slices.Clone(m.Refs[:cap(m.Refs)])
	m.Slots, m.Snaps = slices.Clone(m.Slots[:cap(m.Slots)]), slices.Clone(m.Snaps[:cap(m.Snaps)])
	for i, s := range m.Slots {
		m.Slots[i].Table = slices.Clone(s.Table[:cap(s.Table)])
	}
	for i, s := range m.Snaps {
		m.Snaps[i].Root = slices.Clone(s.Root[:cap(s.Root)])
	}
	return m
}

// spoil: each number of each list gets that of its list; then each list must have its own.
func spoil(t *testing.T, m api.Image) {
	t.Helper()
	m.Slots, m.Snaps = m.Slots[:cap(m.Slots)], m.Snaps[:cap(m.Snaps)]
	lists := [][]int{m.Root[:cap(m.Root)], m.Refs[:cap(m.Refs)]}
	for i, s := range m.Slots {
		lists = append(lists, s.Table[:cap(s.Table)])
		m.Slots[i].Data = "mine"
	}
	for i, s := range m.Snaps {
		lists = append(lists, s.Root[:cap(s.Root)])
		m.Snaps[i].Name = "mine"
	}
	for i, l := range lists {
		for k := range l {
			l[k] = 1000 + i
		}
	}
	for i, l := range lists {
		if slices.ContainsFunc(l, func(k int) bool { return k != 1000+i }) {
			t.Errorf("two lists share memory: %v", lists)
		}
	}
}

func TestP2Write(t *testing.T) {
	for _, turn := range []func(m *api.Image){
		func(*api.Image) {},
		func(m *api.Image) { m.Refs[1] = 1 },
		func(m *api.Image) { m.Guest = 17 },
	} {
		m := roomySample(sample())
		turn(&m)
		was := whole(m)
		s, e := wire.Write(m)
		if !reflect.DeepEqual(whole(m), was) {
			t.Errorf("what was handed in is changed: %+v", m)
		}
		if again, f := wire.Write(m); again != s || f != e {
			t.Errorf("%q %d, then %q %d", s, e, again, f)
		}
	}
}

func TestP2Read(t *testing.T) {
	for _, c := range pairs() {
		x, _ := wire.Read(c.bytes)
		y, _ := wire.Read(c.bytes)
		spoil(t, x)
		if !same(y, c.m) {
			t.Errorf("%s: two answers share memory: %+v", c.name, y)
		}
	}
}
