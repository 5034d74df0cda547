// Package flat: flat images: see doc/02-flat.md.
package flat

import (
	"slipsheet/api"
	"slipsheet/pages"
)

// Read: see the chapter.
func Read(l []string, n int) (string, api.Errno) {
	if e := checkAt(l, n); e != api.OK {
		return "", e
	}
	return l[n], api.OK
}

// Write: see the chapter.
func Write(l []string, n int, page string) ([]string, api.Errno) {
	if e := checkAt(l, n); e != api.OK {
		return nil, e
	}
	if e := pages.Check([]string{page}); e != api.OK {
		return nil, e
	}
	out := firstPages(l, len(l))
	out[n] = page
	return out, api.OK
}

// Resize: see the chapter.
func Resize(l []string, guest int) ([]string, api.Errno) {
	if e := pages.Check(l); e != api.OK {
		return nil, e
	}
	if guest < 0 || guest > api.MaxGuest {
		return nil, api.ErrRange
	}
	return firstPages(l, guest), api.OK
}

// checkAt tells the errors of a flat image, and then that of a page's number in it.
func checkAt(l []string, n int) api.Errno {
	if e := pages.Check(l); e != api.OK {
		return e
	}
	if n < 0 || n >= len(l) {
		return api.ErrRange
	}
	return api.OK
}

// firstPages is always a list of its own: the caller's must not be written to, nor be answered.
func firstPages(l []string, guest int) []string {
	out := make([]string, guest)
	for i := copy(out, l); i < guest; i++ {
		out[i] = pages.Zero()
	}
	return out
}
