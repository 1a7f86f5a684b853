package coder

// words is an interval that goes by the chapter's words as plainly as may be, with numbers that have room to spare.
type words struct {
	x, y int
	shed []byte
	// met counts how often a bit shed none, one, .. of the bytes, so that a test can tell whether it has seen all.
	met [5]int
}

func newWords() *words {
	return &words{y: 1<<32 - 1}
}

// cut is m.
func (w *words) cut(p int) int {
	d := w.y - w.x
	return w.x + (d/65536)*p + ((d%65536)*p)/65536
}

// take is a bit of the chance p, and how many bytes it sheds.
func (w *words) take(bit, p int) int {
	m := w.cut(p)
	if bit == 1 {
		w.y = m
	}
	if bit == 0 {
		w.x = m + 1
	}
	n := 0
	for w.x/(1<<24) == w.y/(1<<24) {
		w.shed = append(w.shed, byte(w.x/(1<<24)))
		w.x = w.x * 256 % (1 << 32)
		w.y = (w.y*256 + 255) % (1 << 32)
		n++
	}
	w.met[n]++
	return n
}

// end is what End tells.
func (w *words) end() []byte {
	b := append([]byte{}, w.shed...)
	for _, part := range []int{1 << 24, 1 << 16, 1 << 8, 1} {
		b = append(b, byte(w.x/part%256))
	}
	return b
}

// readWords reads bits from bytes by the chapter's words.
type readWords struct {
	*words
	b []byte
	// at is how many bytes have come, those behind the end too.
	at, z int
}

func newReadWords(b []byte) *readWords {
	r := &readWords{words: newWords(), b: b}
	for range 4 {
		r.next()
	}
	return r
}

func (r *readWords) next() {
	n := 0
	if r.at < len(r.b) {
		n = int(r.b[r.at])
	}
	r.at++
	r.z = r.z*256%(1<<32) + n
}

// get is the next bit.
func (r *readWords) get(p int) int {
	bit := 0
	if r.z <= r.cut(p) {
		bit = 1
	}
	for range r.take(bit, p) {
		r.next()
	}
	return bit
}

// read is what Read tells.
func (r *readWords) read() int {
	return min(r.at, len(r.b))
}
