package desk_test

import (
	"strconv"
	"strings"
	"testing"

	"slipsheet/api"
	"slipsheet/desk"
	"slipsheet/move"
	"slipsheet/reads"
	"slipsheet/slots"
	"slipsheet/snaps"
	"slipsheet/tree"
	"slipsheet/wire"
	"slipsheet/writes"
)

// A step is a line, and the line that it gives.
type step struct{ line, want string }

// played: the steps' lines give what they must, one for each.
func played(t *testing.T, name string, steps []step) {
	t.Helper()
	in, want := "", ""
	for _, s := range steps {
		in += s.line + "\n"
		want += s.want + "\n"
	}
	out, e := desk.Play(in)
	if e != api.OK {
		t.Fatalf("%s: %d, %q", name, e, out)
	}
	if out == want {
		return
	}
	got := strings.Split(strings.TrimSuffix(out, "\n"), "\n")
	for i, s := range steps {
		if i >= len(got) || got[i] != s.want {
			t.Fatalf("%s: line %d, %q: not %q, of %q", name, i, s.line, s.want, out)
		}
	}
	t.Fatalf("%s: %q, not %q", name, out, want)
}

func TestM1Script(t *testing.T) {
	for _, c := range []struct {
		name, in, want string
		e              api.Errno
	}{
		{"nothing", "", "", api.OK},
		{"a line", "map\n", "none\n", api.OK},
		{"an empty line", "\n", "error 1\n", api.OK},
		{"empty lines", "\n\n", "error 1\nerror 1\n", api.OK},
		{"no line feed", "map", "", api.ErrForm},
		{"no line feed behind the last line", "map\nmap", "", api.ErrForm},
		{"a blank behind the last line feed", "map\n ", "", api.ErrForm},
		{"a line end of another kind", "map\r", "", api.ErrForm},
		{"line ends of another kind", "map\r\n", "error 1\n", api.OK},
		{"the most lines", strings.Repeat("map\n", 60), strings.Repeat("none\n", 60), api.OK},
		{"the most lines, empty", strings.Repeat("\n", 60), strings.Repeat("error 1\n", 60), api.OK},
		{"too many lines", strings.Repeat("map\n", 61), "", api.ErrMany},
		{"too many lines, empty", strings.Repeat("\n", 61), "", api.ErrMany},
		{"too many lines, and no line feed", strings.Repeat("map\n", 61) + "map", "", api.ErrMany},
		{"the most lines, and what is none", strings.Repeat("map\n", 60) + "map", "", api.ErrForm},
		{"the most bytes", strings.Repeat("x", 4095) + "\n", "error 1\n", api.OK},
		{"the most bytes, of which some are right", "size 2\nmap\n" + strings.Repeat("x", 4096-12) + "\n", "ok\n. .\nerror 1\n", api.OK},
		{"the most bytes, no line feed", strings.Repeat("x", 4096), "", api.ErrForm},
		{"too many bytes", strings.Repeat("x", 4096) + "\n", "", api.ErrMany},
		{"too many bytes, no line feed", strings.Repeat("x", 4097), "", api.ErrMany},
		{"too many of both", strings.Repeat("\n", 4097), "", api.ErrMany},
		{"very many bytes", strings.Repeat("map\n", 1<<18), "", api.ErrMany},
	} {
		if out, e := desk.Play(c.in); out != c.want || e != c.e {
			t.Errorf("%s: %q %d, not %q %d", c.name, out, e, c.want, c.e)
		}
	}
}

func TestM1Beginning(t *testing.T) {
	for _, s := range []step{
		{"map", "none"}, {"used", "0 1"}, {"save", "4"}, {"pack", "ok"}, {"read 0", "error 3"}, {"write 0 aaaa", "error 3"}, {"wipe 0", "error 3"}, {"punch 0", "error 3"},
		{"size 0", "ok"}, {"size 16", "ok"}, {"snap a", "ok"}, {"back a", "error 5"}, {"drop a", "error 5"},
	} {
		played(t, s.line, []step{s})
	}
}

// TestM1Example: the document's, with numbers that its chapters 7, 8, 11 and 12 ask for.
func TestM1Example(t *testing.T) {
	played(t, "example", []step{
		{"size 6", "ok"}, {"map", ". . . . . ."}, {"used", "0 1"}, {"save", "6"},
		{"write 0 abcd", "ok"}, {"map", "2 . . . . ."}, {"used", "2 3"}, {"save", "16"},
		{"snap one", "ok"}, {"used", "2 3"}, {"save", "23"},
		{"write 0 efgh", "ok"}, {"map", "4 . . . . ."}, {"used", "4 5"},
		{"wipe 5", "ok"}, {"map", "4 . . . . 0"}, {"used", "5 6"}, {"read 0", "efgh"}, {"read 5", "...."}, {"read 1", "...."},
		{"back one", "ok"}, {"map", "2 . . . . ."}, {"used", "2 6"}, {"read 0", "abcd"}, {"save", "26"},
		{"drop one", "ok"}, {"used", "2 6"}, {"save", "19"}, {"pack", "ok"}, {"used", "2 3"}, {"save", "16"},
		{"punch 0", "ok"}, {"used", "0 3"}, {"map", ". . . . . ."}, {"size 0", "ok"}, {"map", "none"},
	})
}

// TestM1Save: the image is as it was, whatever it has.
func TestM1Save(t *testing.T) {
	played(t, "save", []step{
		{"size 16", "ok"}, {"write 3 abcd", "ok"}, {"wipe 2", "ok"}, {"snap longname", "ok"}, {"write 15 zzzz", "ok"}, {"snap a", "ok"}, {"punch 15", "ok"},
		{"map", ". . 0 2 . . . . . . . . . . . ."}, {"used", "4 5"},
		{"save", "49"}, {"save", "49"},
		{"map", ". . 0 2 . . . . . . . . . . . ."}, {"used", "4 5"}, {"read 3", "abcd"},
		{"back a", "ok"}, {"read 15", "zzzz"}, {"back longname", "ok"}, {"read 15", "...."}, {"read 3", "abcd"}, {"snap b", "ok"}, {"snap c", "error 2"}, {"drop longname", "ok"}, {"save", "42"},
	})
}

func TestM1Pages(t *testing.T) {
	played(t, "pages", []step{
		{"size 2", "ok"},
		{"write 0 a cd", "ok"}, {"read 0", "a cd"},
		{"write 0  bcd", "ok"}, {"read 0", " bcd"},
		{"write 0     ", "ok"}, {"read 0", "    "},
		{"write 0 abc ", "ok"}, {"read 0", "abc "},
		{"write 0 \x00\x00\x00\x00", "ok"}, {"read 0", "...."}, {"map", "2 ."},
		{"write 0 \x00a\x00.", "ok"}, {"read 0", ".a.."},
		{"write 0 \xff\x80\r\x01", "ok"}, {"read 0", "\xff\x80\r\x01"},
		{"write 0 0000", "ok"}, {"read 0", "0000"},
		{"write 1 é\u00fc", "ok"}, {"read 1", "é\u00fc"},
		{"write 0 abc", "error 1"}, {"write 0 abcde", "error 1"}, {"write 0 abcd ", "error 1"}, {"write 0  abcd", "error 1"},
		{"write 0 ", "error 1"}, {"write 0", "error 1"}, {"write 0abcd", "error 1"}, {"write  0 abcd", "error 1"}, {"write", "error 1"}, {"write ", "error 1"},
		{"write 2 abcd", "error 3"}, {"write 2 abc", "error 3"}, {"write 2 ", "error 3"}, {"write 2", "error 1"},
		{"read 0", "0000"}, {"read 1", "é\u00fc"}, {"map", "2 3"}, {"used", "3 4"},
	})
}

func TestM1Names(t *testing.T) {
	played(t, "names", []step{
		{"size 1", "ok"}, {"write 0 aaaa", "ok"},
		{"snap", "error 1"}, {"snap ", "error 4"}, {"snap A", "error 4"}, {"snap a b", "error 4"}, {"snap  a", "error 4"}, {"snap a ", "error 4"}, {"snap aaaaaaaaa", "error 4"}, {"snap \x00", "error 4"}, {"snap 1", "error 4"},
		{"snap a", "ok"}, {"snap a", "error 6"}, {"snap aaaaaaaa", "ok"}, {"snap b", "ok"}, {"snap b", "error 6"}, {"snap B", "error 4"}, {"snap c", "error 2"},
		{"back", "error 1"}, {"back ", "error 5"}, {"back c", "error 5"}, {"back a b", "error 5"}, {"back  a", "error 5"}, {"back A", "error 5"}, {"back aaaaaaaaa", "error 5"},
		{"drop", "error 1"}, {"drop ", "error 5"}, {"drop c", "error 5"}, {"drop a b", "error 5"}, {"drop a ", "error 5"}, {"drop \xff", "error 5"},
		{"write 0 bbbb", "ok"}, {"read 0", "bbbb"}, {"back b", "ok"}, {"read 0", "aaaa"}, {"drop b", "ok"}, {"drop b", "error 5"}, {"back b", "error 5"}, {"snap b", "ok"},
	})
}

func TestM1Numbers(t *testing.T) {
	wrong := []string{"", " ", "x", "00", "01", "016", "+1", "-1", "-0", "+0", "1.0", "1e0", "0x1", "1_0", "1a", "a1", " 1", "1 ", "1 1", "1\r", "1\x00", "0000000", "0000001", "1000000", "9999999", "18446744073709551617", "99999999999999999999", "\u0661", "\xff"}
	for _, word := range []string{"size", "wipe", "punch", "read"} {
		steps := []step{{"size 3", "ok"}}
		for _, s := range wrong {
			steps = append(steps, step{word + " " + s, "error 1"})
		}
		steps = append(steps, step{word, "error 1"}, step{word + " 17", "error 3"}, step{word + " 999999", "error 3"}, step{word + " 100000", "error 3"}, step{"map", ". . ."})
		played(t, word, steps)
	}
	steps := []step{{"size 3", "ok"}}
	for _, s := range wrong {
		steps = append(steps, step{"write " + s + " abcd", "error 1"})
	}
	played(t, "write", append(steps, step{"write 999999 abcd", "error 3"}, step{"write 3 abcd", "error 3"}, step{"map", ". . ."}))
	played(t, "right ones", []step{
		{"size 16", "ok"}, {"wipe 0", "ok"}, {"wipe 9", "ok"}, {"wipe 10", "ok"}, {"wipe 15", "ok"}, {"wipe 16", "error 3"}, {"map", "0 . . . . . . . . 0 0 . . . . 0"},
		{"punch 0", "ok"}, {"punch 10", "ok"}, {"punch 16", "error 3"}, {"map", ". . . . . . . . . 0 . . . . . 0"}, {"read 15", "...."}, {"read 16", "error 3"},
		{"size 17", "error 3"}, {"size 10", "ok"}, {"map", ". . . . . . . . . 0"}, {"size 1", "ok"}, {"map", "."}, {"size 0", "ok"}, {"map", "none"},
	})
}

func TestM1Words(t *testing.T) {
	for _, line := range []string{
		"", " ", "x", "Map", "MAP", "map ", " map", "map x", "map 0", "mapp", "ma", "map\r", "map\x00", "map\tx", "used ", "used 1", "Used", "save ", "save a", "pack ", "pack 1", "packs", "pa ck",
		" size 1", "size\t1", "sizes 1", "size1", "Size 1", " read 0", "reads 0", "readd", " write 0 abcd", "writes 0 abcd", "Write 0 abcd", "punch 0 1", "wipe 0 abcd", "read 0 0", " snap a", "snaps a", "Snap a", "revert a", "delete a", "none", "ok", "error 1", "\xff", "\x00", "resize 1", "create b",
	} {
		played(t, line, []step{
			{"size 2", "ok"}, {"write 0 aaaa", "ok"}, {"snap a", "ok"}, {"wipe 0", "ok"}, {"map", "0 ."}, {"used", "3 4"}, {"save", "24"},
			{line, "error 1"},
			{"map", "0 ."}, {"used", "3 4"}, {"save", "24"}, {"back a", "ok"}, {"read 0", "aaaa"},
		})
	}
}

// TestM1Full: too few slots are left, and nothing has changed.
func TestM1Full(t *testing.T) {
	steps := []step{{"size 16", "ok"}}
	for n := range 16 {
		steps = append(steps, step{"write " + strconv.Itoa(n) + " old.", "ok"})
	}
	steps = append(steps, step{"used", "20 21"}, step{"snap old", "ok"})
	for n := range 15 {
		steps = append(steps, step{"write " + strconv.Itoa(n) + " new.", "ok"})
	}
	all := "22 23 24 25 27 28 29 30 32 33 34 35 37 38 39 20"
	played(t, "full", append(steps, []step{
		{"used", "39 40"}, {"map", all}, {"write 15 new.", "error 7"}, {"used", "39 40"}, {"map", all}, {"read 15", "old."}, {"read 14", "new."},
		{"snap more", "ok"}, {"wipe 0", "error 7"}, {"punch 15", "error 7"}, {"size 15", "error 7"}, {"map", all}, {"save", "222"}, {"size 12", "ok"}, {"back old", "ok"}, {"read 14", "old."}, {"drop more", "ok"}, {"used", "20 40"}, {"pack", "ok"}, {"used", "20 21"}, {"save", "117"},
		{"map", "2 3 4 5 7 8 9 10 12 13 14 15 17 18 19 20"},
	}...))
}

// TestM2Same: what is played hangs on the script alone.
func TestM2Same(t *testing.T) {
	one := "size 3\nwrite 0 abcd\nsnap a\nmap\n"
	x, _ := desk.Play(one)
	desk.Play("size 16\nwrite 1 bbbb\nsnap a\n")
	if y, e := desk.Play(one); x != y || e != api.OK || x != "ok\nok\nok\n2 . .\n" {
		t.Errorf("%q, then %q %d", x, y, e)
	}
}

// draw: numbers, the same each time.
type draw uint64

func (d *draw) n(n int) int {
	*d = *d*6364136223846793005 + 1442695040888963407
	return int(uint64(*d) >> 33 % uint64(n))
}

// done: what a call that changes an image gives; the image is set if there is no error.
func done(m *api.Image, x api.Image, e api.Errno) string {
	if e != api.OK {
		return "error " + strconv.Itoa(int(e))
	}
	*m = x
	return "ok"
}

// entries: what map gives.
func entries(m api.Image) string {
	out := ""
	for n := range m.Guest {
		k, _ := tree.Look(m, n)
		switch k {
		case 0:
			out += " ."
		case -1:
			out += " 0"
		default:
			out += " " + strconv.Itoa(k)
		}
	}
	if out == "" {
		return "none"
	}
	return out[1:]
}

// line: one that is drawn, and what the call that it asks for gives.
func (d *draw) line(m *api.Image) step {
	n, name := d.n(17), []string{"a", "b", "c", "d", "E"}[d.n(5)]
	number := strconv.Itoa(n)
	switch d.n(14) {
	case 0:
		x, e := writes.Resize(*m, n)
		return step{"size " + number, done(m, x, e)}
	case 1:
		x, e := writes.Wipe(*m, n)
		return step{"wipe " + number, done(m, x, e)}
	case 2:
		x, e := writes.Punch(*m, n)
		return step{"punch " + number, done(m, x, e)}
	case 3:
		x, e := snaps.Create(*m, name)
		return step{"snap " + name, done(m, x, e)}
	case 4:
		x, e := snaps.Revert(*m, name)
		return step{"back " + name, done(m, x, e)}
	case 5:
		x, e := snaps.Delete(*m, name)
		return step{"drop " + name, done(m, x, e)}
	case 6:
		x, e := move.Pack(*m)
		return step{"pack", done(m, x, e)}
	case 7:
		p, e := reads.Read(*m, n)
		if e != api.OK {
			p = "error " + strconv.Itoa(int(e))
		}
		return step{"read " + number, strings.ReplaceAll(p, "\x00", ".")}
	case 8:
		return step{"map", entries(*m)}
	case 9:
		k, _ := slots.Used(m.Slots)
		return step{"used", strconv.Itoa(k) + " " + strconv.Itoa(len(m.Slots))}
	case 10:
		s, _ := wire.Write(*m)
		return step{"save", strconv.Itoa(len(s))}
	}
	p := strings.Repeat(string([]byte{byte(d.n(256))}), 3+d.n(8)/7) + "z"
	p = strings.ReplaceAll(p, "\n", " ")
	x, e := writes.Write(*m, n, p)
	return step{"write " + number + " " + p, done(m, x, e)}
}

func TestM1Drawn(t *testing.T) {
	d := draw(8)
	for i := range 500 {
		m := api.Image{Slots: make([]api.Slot, 1), Refs: make([]int, 1)}
		x, _ := writes.Resize(m, 16)
		steps := []step{{"size 16", done(&m, x, api.OK)}}
		for range 56 {
			steps = append(steps, d.line(&m))
		}
		s, _ := wire.Write(m)
		used, _ := slots.Used(m.Slots)
		played(t, strconv.Itoa(i), append(steps, step{"map", entries(m)}, step{"used", strconv.Itoa(used) + " " + strconv.Itoa(len(m.Slots))}, step{"save", strconv.Itoa(len(s))}))
	}
}

// TestP1Drawn: whatever a script is, each line gives one, and nothing panics.
func TestP1Drawn(t *testing.T) {
	d := draw(6)
	parts := []string{"size", "wipe", "punch", "write", "snap", "back", "drop", "pack", "read", "map", "used", "save", " ", " ", " ", "0", "1", "16", "a", "abcd", "\x00", "\xff", "\n", "\n", "\n", "error", "-"}
	for range 20000 {
		s := "size 4\n"
		for range d.n(60) {
			s += parts[d.n(len(parts))]
		}
		out, e := desk.Play(s)
		n := strings.Count(s, "\n")
		want := api.OK
		if n > api.MaxLines {
			want = api.ErrMany
		} else if s[len(s)-1] != '\n' {
			want = api.ErrForm
		}
		if e != want || want != api.OK && out != "" || want == api.OK && (strings.Count(out, "\n") != n || !strings.HasSuffix(out, "\n")) {
			t.Fatalf("%q: %q %d, not %d", s, out, e, want)
		}
	}
}
