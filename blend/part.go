package blend

import (
	"math/bits"

	"quillpress/api"
	"quillpress/squash"
	"quillpress/states"
)

const (
	// edge is the farthest that a part leans, either way.
	edge = 2047
	// unit is a weight of one.
	unit = 65536
	// heavy is the greatest weight, either way, of those parts whose weights may be above one.
	heavy = 1 << 20
	// long is the greatest length of a match.
	long = 32
	// entries is how many guesses a place of a PSse has.
	entries = 32
)

// part is a part at work. Each kind is a type of its own.
type part interface {
	// lean is how far the part leans towards a one.
	lean(m moment) int
	// learn is told which bit came behind the part's own lean, at the moment when it leaned so.
	learn(m moment, own, bit int)
	// begin is told the part's context for a byte that begins.
	begin(context uint32)
	// end is told a byte that is whole.
	end(whole byte)
}

// moment is what a part sees ahead of a bit.
type moment struct {
	context uint32
	// c is a one and, behind it, the bits of the byte that is going on.
	c uint32
	// leans are those of all parts; a part may go by those ahead of it alone.
	leans []int
}

// build puts a right part to work.
func build(p api.Part) part {
	switch p.Kind {
	case api.PConst:
		return constant{c: p.C}
	case api.PCm:
		return &cm{table: lay(p.Size, 1, even), limit: p.Limit}
	case api.PIcm:
		return newIcm(p.Size)
	case api.PMatch:
		return &match{ring: make([]byte, 1<<p.Size), seen: lay(p.Size, 1, same(0))}
	case api.PAvg:
		return avg{a: p.A, b: p.B, c: p.C}
	case api.PMix2:
		return &mix2{table: lay(p.Size, 1, same(unit/2)), a: p.A, b: p.B, rate: p.Rate}
	case api.PMix:
		return &mix{table: lay(p.Size, p.B, same(unit/p.B)), a: p.A, rate: p.Rate}
	case api.PIsse:
		return newIsse(p.Size, p.A)
	}
	return &sse{table: lay(p.Size, entries, spread), a: p.A, limit: p.Limit}
}

// bitwise is the beginning and the end of a part that goes by bits alone.
type bitwise struct{}

func (bitwise) begin(uint32) {}

func (bitwise) end(byte) {}

// fixed is the learning of a part that never learns.
type fixed struct{}

func (fixed) learn(moment, int, int) {}

// miss is how far a part that leaned so was from the bit.
func miss(own, bit int) int {
	return 4095*bit - squash.Squash(own)
}

// within brings n into -most to most.
func within(n, most int) int {
	return max(-most, min(n, most))
}

// constant is a PConst.
type constant struct {
	bitwise
	fixed
	c int
}

func (x constant) lean(moment) int {
	return x.c
}

// cm is a PCm.
type cm struct {
	bitwise
	table table[odds]
	limit int
}

func (x *cm) lean(m moment) int {
	return x.table.at(m)[0].lean()
}

func (x *cm) learn(m moment, _, bit int) {
	x.table.at(m)[0].learn(bit, x.limit)
}

// icm is a PIcm.
type icm struct {
	bitwise
	table table[uint8]
	// chances are those of each state, of 65536.
	chances [256]int
}

// newIcm has no states yet, and of each the chance that its counts make.
func newIcm(size int) *icm {
	x := &icm{table: lay(size, 1, same(uint8(0)))}
	for s := range x.chances {
		x.chances[s] = states.Chance(uint8(s))
	}
	return x
}

func (x *icm) lean(m moment) int {
	return squash.Stretch(x.chances[x.table.at(m)[0]] / 16)
}

func (x *icm) learn(m moment, _, bit int) {
	s := &x.table.at(m)[0]
	x.chances[*s] += (65535*bit - x.chances[*s]) / 64
	*s = states.Next(*s, bit)
}

// match is a PMatch: it looks for what came behind the same bytes.
type match struct {
	fixed
	// ring has the last bytes, each at its number's rest.
	ring []byte
	// seen is, for each context's place, how many bytes were ahead when it was there last; 0 if it never was.
	seen table[int]
	// n is how many bytes were whole.
	n int
	// place is where in the ring the byte stands that is looked for, if the length is above 0.
	place, length int
}

func (x *match) lean(m moment) int {
	if x.length == 0 {
		return 0
	}
	e := uint32(x.ring[x.place]) + 256
	left := 9 - bits.Len32(m.c)
	if e>>left != m.c {
		return 0
	}
	far := 64 * min(x.length, 15)
	if e>>(left-1)%2 == 0 {
		return -far
	}
	return far
}

func (x *match) begin(context uint32) {
	q := &x.seen.at(moment{context: context, c: 1})[0]
	if x.length == 0 && *q != 0 {
		x.place, x.length = x.turn(*q), x.alike(*q)
	}
	*q = x.n
}

func (x *match) end(whole byte) {
	if x.length > 0 && x.ring[x.place] == whole {
		x.place, x.length = x.turn(x.place+1), min(x.length+1, long)
	} else {
		x.length = 0
	}
	x.ring[x.turn(x.n)] = whole
	x.n++
}

// turn is where in the ring the byte with this number stands.
func (x *match) turn(number int) int {
	return number % len(x.ring)
}

// alike is how many bytes ahead of q and ahead of n are the same, from the last one on.
func (x *match) alike(q int) int {
	k := 0
	for k < min(long, q) && x.ring[x.turn(q-1-k)] == x.ring[x.turn(x.n-1-k)] {
		k++
	}
	return k
}

// Below, sums are shifted where the chapter divides them down: a shift goes towards below, a division towards 0.

// avg is a PAvg.
type avg struct {
	bitwise
	fixed
	a, b, c int
}

func (x avg) lean(m moment) int {
	return (x.c*m.leans[x.a] + (256-x.c)*m.leans[x.b]) >> 8
}

// mix2 is a PMix2.
type mix2 struct {
	bitwise
	table      table[int]
	a, b, rate int
}

func (x *mix2) lean(m moment) int {
	w := x.table.at(m)[0]
	return (w*m.leans[x.a] + (unit-w)*m.leans[x.b]) >> 16
}

func (x *mix2) learn(m moment, own, bit int) {
	w := &x.table.at(m)[0]
	more := miss(own, bit) * x.rate * (m.leans[x.a] - m.leans[x.b])
	*w = max(0, min(*w+(more+512)>>10, unit-1))
}

// mix is a PMix.
type mix struct {
	bitwise
	table   table[int]
	a, rate int
}

func (x *mix) lean(m moment) int {
	sum := 0
	for k, w := range x.table.at(m) {
		sum += w * m.leans[x.a+k]
	}
	return within(sum>>16, edge)
}

func (x *mix) learn(m moment, own, bit int) {
	by := miss(own, bit) * x.rate
	weights := x.table.at(m)
	for k, w := range weights {
		weights[k] = within(w+(by*m.leans[x.a+k]+8192)>>14, heavy)
	}
}

// isse is a PIsse.
type isse struct {
	bitwise
	table table[uint8]
	// weights are, of each state, the earlier part's and that of a lean that stands.
	weights [256][2]int
	a       int
}

// newIsse has no states yet, and of each the earlier part's lean as it is.
func newIsse(size, a int) *isse {
	x := &isse{table: lay(size, 1, same(uint8(0))), a: a}
	for s := range x.weights {
		x.weights[s][0] = unit
	}
	return x
}

func (x *isse) lean(m moment) int {
	w := x.weights[x.table.at(m)[0]]
	return within((w[0]*m.leans[x.a]+w[1]*64)>>16, edge)
}

func (x *isse) learn(m moment, own, bit int) {
	s := &x.table.at(m)[0]
	w := &x.weights[*s]
	by := miss(own, bit)
	w[0] = within(w[0]+(by*m.leans[x.a]+4096)>>13, heavy)
	w[1] = within(w[1]+(by+16)>>5, heavy)
	*s = states.Next(*s, bit)
}

// sse is a PSse.
type sse struct {
	bitwise
	table    table[odds]
	a, limit int
}

func (x *sse) lean(m moment) int {
	return x.odds(m).lean()
}

func (x *sse) learn(m moment, _, bit int) {
	x.odds(m).learn(bit, x.limit)
}

// odds are those of its place for leans like the earlier part's.
func (x *sse) odds(m moment) *odds {
	return &x.table.at(m)[(m.leans[x.a]+edge)/128]
}
