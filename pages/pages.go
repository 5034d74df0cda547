// Package pages: pages: see doc/01-pages.md.
package pages

import (
	"strings"

	"slipsheet/api"
)

// Check: see the chapter.
func Check(l []string) api.Errno {
	if len(l) > api.MaxGuest {
		return api.ErrMany
	}
	for _, p := range l {
		if !isPage(p) {
			return api.ErrForm
		}
	}
	return api.OK
}

// Zero: see the chapter.
func Zero() string { return zeros(api.Page) }

// Split: see the chapter.
func Split(s string) ([]string, api.Errno) {
	if len(s) > api.MaxGuest*api.Page {
		return nil, api.ErrMany
	}
	var l []string
	for len(s) > api.Page {
		l = append(l, s[:api.Page])
		s = s[api.Page:]
	}
	if s != "" {
		l = append(l, s+zeros(api.Page-len(s)))
	}
	return l, api.OK
}

// Join: see the chapter.
func Join(l []string) (string, api.Errno) {
	if e := Check(l); e != api.OK {
		return "", e
	}
	return strings.Join(l, ""), api.OK
}

// Patch: see the chapter.
func Patch(page string, at int, s string) (string, api.Errno) {
	if !isPage(page) {
		return "", api.ErrForm
	}
	if at < 0 || at > api.Page || len(s) > api.Page-at {
		return "", api.ErrRange
	}
	return page[:at] + s + page[at+len(s):], api.OK
}

func isPage(p string) bool { return len(p) == api.Page }

func zeros(n int) string { return strings.Repeat("\x00", n) }
