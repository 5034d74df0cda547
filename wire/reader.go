package wire

import "slipsheet/api"

// blank is the byte that Blank is told by.
const blank = 255

// reader has the bytes that are still to be read.
type reader struct {
	left string
}

// wrong is what a reader panics with: whoever reads a part need not ask of each one ahead whether it was there.
type wrong struct{}

// parsed is the image whose parts these bytes are, all of them; it has no Refs, and need not be right.
func parsed(s string) (m api.Image, whole bool) {
	defer func() {
		switch r := recover().(type) {
		case nil:
		case wrong:
			m, whole = api.Image{}, false
		default: // a fault of the reader must not pass for one of the bytes
			panic(r)
		}
	}()
	r := reader{left: s}
	m = r.image()
	if r.left != "" {
		panic(wrong{})
	}
	return m, true
}

func (r *reader) image() api.Image {
	m := api.Image{Guest: r.number()}
	for range r.number() {
		m.Slots = append(m.Slots, r.slot())
	}
	for range r.number() {
		m.Snaps = append(m.Snaps, r.snap())
	}
	m.Root = r.root(m.Guest)
	return m
}

func (r *reader) slot() api.Slot {
	switch r.number() {
	case api.Free:
		return api.Slot{}
	case api.Data:
		return api.Slot{Kind: api.Data, Data: r.text(api.Page)}
	case api.Table:
		return api.Slot{Kind: api.Table, Table: r.entries(api.Fan)}
	}
	panic(wrong{})
}

func (r *reader) snap() api.Snap {
	s := api.Snap{Name: r.text(r.number())}
	s.Guest = r.number()
	s.Root = r.root(s.Guest)
	return s
}

func (r *reader) root(guest int) []int {
	return r.entries((guest + api.Fan - 1) / api.Fan)
}

func (r *reader) entries(n int) []int {
	l := make([]int, n)
	for i := range l {
		l[i] = r.number()
		if l[i] == blank {
			l[i] = api.Blank
		}
	}
	return l
}

func (r *reader) number() int { return int(r.text(1)[0]) }

func (r *reader) text(n int) string {
	if n > len(r.left) {
		panic(wrong{})
	}
	s := r.left[:n]
	r.left = r.left[n:]
	return s
}
