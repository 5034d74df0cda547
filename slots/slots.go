// Package slots: slots: see doc/03-slots.md.
package slots

import (
	"slipsheet/api"
	"slipsheet/entry"
)

// Check: see the chapter.
func Check(s api.Slot) api.Errno {
	if !isRight(rules(), s) {
		return api.ErrForm
	}
	return api.OK
}

// Grab: see the chapter.
func Grab(l []api.Slot) (int, api.Errno) {
	if e := checkAll(l); e != api.OK {
		return 0, e
	}
	n := 1 // slot 0 is never used, though it is Free
	for n < len(l) && l[n].Kind != api.Free {
		n++
	}
	if n == api.MaxSlots {
		return 0, api.ErrFull
	}
	return n, api.OK
}

// Used: see the chapter.
func Used(l []api.Slot) (int, api.Errno) {
	if e := checkAll(l); e != api.OK {
		return 0, e
	}
	n := 0
	for _, s := range l {
		if s.Kind != api.Free {
			n++
		}
	}
	return n, api.OK
}

// A rule tells whether a slot of its kind is right.
type rule func(s api.Slot) bool

// rules has what a slot must be, by its kind. A kind that is not there is no slot's.
func rules() map[int]rule {
	return map[int]rule{
		api.Free: func(s api.Slot) bool {
			return s.Data == "" && len(s.Table) == 0
		},
		api.Data: func(s api.Slot) bool {
			return len(s.Data) == api.Page && len(s.Table) == 0
		},
		api.Table: func(s api.Slot) bool {
			bare, e := entry.Bare(s.Table)
			return e == api.OK && !bare && s.Data == ""
		},
	}
}

func isRight(by map[int]rule, s api.Slot) bool {
	right, known := by[s.Kind]
	return known && right(s)
}

func checkAll(l []api.Slot) api.Errno {
	if len(l) < 1 || len(l) > api.MaxSlots {
		return api.ErrMany
	}
	by := rules()
	for _, s := range l {
		if !isRight(by, s) {
			return api.ErrForm
		}
	}
	if l[0].Kind != api.Free {
		return api.ErrForm
	}
	return api.OK
}
