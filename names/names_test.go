package names_test

import (
	"testing"

	"slipsheet/names"
)

func TestE1Names(t *testing.T) {
	for _, s := range []string{"a", "z", "old", "aaaaaaaa", "abcdefgh", "zzzzzzzz"} {
		if !names.Right(s) {
			t.Errorf("%q is none", s)
		}
	}
	for _, s := range []string{"", "A", "Z", "Old", "olD", "ol`", "ol{", "o d", " ", "o1", "old\x00", "old\n", "\xff", "é", "o\u0131d", "aaaaaaaaa", "aaaaaaaaA"} {
		if names.Right(s) {
			t.Errorf("%q is one", s)
		}
	}
}
