// Package entry: entries: see doc/04-entry.md.
package entry

import "slipsheet/api"

// Check: see the chapter.
func Check(t []int) api.Errno {
	if len(t) != api.Fan {
		return api.ErrForm
	}
	for _, e := range t {
		if !isEntry(e) {
			return api.ErrForm
		}
	}
	return api.OK
}

// Bare: see the chapter.
func Bare(t []int) (bool, api.Errno) {
	if err := Check(t); err != api.OK {
		return false, err
	}
	for _, e := range t {
		if e != api.Hole {
			return false, api.OK
		}
	}
	return true, api.OK
}

// With: see the chapter.
func With(t []int, k, e int) ([]int, api.Errno) {
	if err := Check(t); err != api.OK {
		return nil, err
	}
	if k < 0 || k >= api.Fan {
		return nil, api.ErrRange
	}
	if !isEntry(e) {
		return nil, api.ErrForm
	}
	out := firstEntries(t, api.Fan)
	out[k] = e
	return out, api.OK
}

// Cut: see the chapter.
func Cut(t []int, n int) ([]int, api.Errno) {
	if err := Check(t); err != api.OK {
		return nil, err
	}
	if n < 0 || n > api.Fan {
		return nil, api.ErrRange
	}
	return firstEntries(t, n), api.OK
}

func isEntry(e int) bool {
	return e == api.Hole || e == api.Blank || e >= 1 && e < api.MaxSlots
}

// firstEntries is always a list of its own: the caller's must not be written to, nor be answered.
func firstEntries(t []int, n int) []int {
	out := make([]int, api.Fan)
	for i := copy(out, t[:n]); i < api.Fan; i++ {
		out[i] = api.Hole
	}
	return out
}
