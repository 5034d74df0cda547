package wire

import "slipsheet/api"

// writer has the bytes of an image that is right, so that no number is greater than a byte, and none but Blank is less than 0.
type writer struct {
	out []byte
}

// put leans on Blank, which is -1, wrapping round to 255.
func (w *writer) put(numbers ...int) {
	for _, n := range numbers {
		w.out = append(w.out, byte(n))
	}
}

func (w *writer) text(s string) { w.out = append(w.out, s...) }

// slot needs not ask for the kind: what is not of a slot's kind is empty.
func (w *writer) slot(s api.Slot) {
	w.put(s.Kind)
	w.text(s.Data)
	w.put(s.Table...)
}

func (w *writer) snap(s api.Snap) {
	w.put(len(s.Name))
	w.text(s.Name)
	w.put(s.Guest)
	w.put(s.Root...)
}
