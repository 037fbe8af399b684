package huff

// bits: so many of them, as a number.
type bits struct {
	long, number int
}

// goesOn: whether b begins with those bits, and more of it follow.
func (b bits) goesOn(those bits) bool {
	return b.long > those.long && b.number>>(b.long-those.long) == those.number
}

// writer: bytes, and how many bits are left of the last one.
type writer struct {
	bytes []byte
	left  int
}

// put: bits behind the others, the highest one first.
func (w *writer) put(b bits) {
	for i := b.long - 1; i >= 0; i-- {
		if w.left == 0 {
			w.bytes = append(w.bytes, 0)
			w.left = 8
		}
		w.left--
		w.bytes[len(w.bytes)-1] |= byte(b.number>>i&1) << w.left
	}
}

// reader: bytes, and how many of their bits were read.
type reader struct {
	bytes []byte
	read  int
}

func (r *reader) more() bool { return r.read < 8*len(r.bytes) }

// bit: the next one of them.
func (r *reader) bit() int {
	b := r.bytes[r.read/8] >> (7 - r.read%8)
	r.read++
	return int(b & 1)
}
