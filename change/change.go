// Package change: a desk where images are changed, for the layers that change them: see doc/07-writes.md, doc/08-snaps.md, doc/09-mend.md and doc/11-move.md.
package change

import (
	"slices"

	"slipsheet/api"
	"slipsheet/slots"
	"slipsheet/tree"
)

// Desk has a copy of an image that no one else has, so that it may be changed in place.
type Desk struct {
	api.Image
}

// noSlot is what Take panics with: whoever changes an image need not ask of each slot whether there was one.
type noSlot struct{}

// Of is the image that turn makes of a copy of m; Refs are counted, and slots that nothing tells are Free. It tells tree.Shape's errors of that image; ErrFull, if turn takes a slot where none is left.
func Of(m api.Image, turn func(d *Desk)) (out api.Image, e api.Errno) {
	defer func() {
		switch r := recover().(type) {
		case nil:
		case noSlot:
			e = api.ErrFull
		default: // a fault of turn must not pass for a want of slots
			panic(r)
		}
	}()
	d := Desk{Image: copied(m)}
	turn(&d)
	return d.settled()
}

// Take grabs a slot for s, which whoever takes it is to tell once. It panics if none is left, which Of catches.
func (d *Desk) Take(s api.Slot) int {
	k, e := slots.Grab(d.Slots)
	if e != api.OK {
		panic(noSlot{})
	}
	if k == len(d.Slots) {
		d.Slots, d.Refs = append(d.Slots, api.Slot{}), append(d.Refs, 0)
	}
	d.Slots[k], d.Refs[k] = s, 1
	return k
}

func (d *Desk) settled() (api.Image, api.Errno) {
	l, e := tree.Counts(d.Image)
	if e != api.OK {
		return api.Image{}, e
	}
	d.Refs = l
	for k, n := range l {
		if n == 0 {
			d.Slots[k] = api.Slot{}
		}
	}
	return d.Image, api.OK
}

// copied goes down to the last list, since an answer shares none with what was handed in.
func copied(m api.Image) api.Image {
	m.Root, m.Refs = slices.Clone(m.Root), slices.Clone(m.Refs)
	m.Slots, m.Snaps = slices.Clone(m.Slots), slices.Clone(m.Snaps)
	for i, s := range m.Slots {
		m.Slots[i].Table = slices.Clone(s.Table)
	}
	for i, s := range m.Snaps {
		m.Snaps[i].Root = slices.Clone(s.Root)
	}
	return m
}
