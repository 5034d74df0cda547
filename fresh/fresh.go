// Package fresh: an image to which nothing was written yet, for the layers that begin with one: see doc/10-stack.md, doc/11-move.md and doc/13-desk.md.
package fresh

import (
	"slipsheet/api"
	"slipsheet/writes"
)

// Image has that many pages, one slot, the first one, which is Free, and no table. ErrRange, unless guest is from 0 to MaxGuest.
func Image(guest int) (api.Image, api.Errno) {
	return writes.Resize(api.Image{Slots: make([]api.Slot, 1), Refs: make([]int, 1)}, guest)
}
