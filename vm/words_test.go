package vm

import (
	"quillpress/api"
	"quillpress/code"
	"quillpress/valid"
)

// The chapter's words once more, by sums alone: numbers are whole ones, taken modulo 2^32 where they are kept; bits are what halving leaves.

const wrap = 1 << 32

// words is a machine.
type words struct {
	reg  [4]uint64
	f    bool
	r    [256]uint64
	h, m []uint64
}

// read is m as words.
func read(m api.Machine) *words {
	w := &words{f: m.F}
	w.reg = [4]uint64{uint64(m.A), uint64(m.B), uint64(m.C), uint64(m.D)}
	for k, x := range m.R {
		w.r[k] = uint64(x)
	}
	for _, x := range m.H {
		w.h = append(w.h, uint64(x))
	}
	for _, x := range m.M {
		w.m = append(w.m, uint64(x))
	}
	return w
}

// told is w as a machine.
func (w *words) told() api.Machine {
	m := api.Machine{A: uint32(w.reg[0]), B: uint32(w.reg[1]), C: uint32(w.reg[2]), D: uint32(w.reg[3]), F: w.f}
	for k, x := range w.r {
		m.R[k] = uint32(x)
	}
	for _, x := range w.h {
		m.H = append(m.H, uint32(x))
	}
	for _, x := range w.m {
		m.M = append(m.M, byte(x))
	}
	return m
}

// rightMachine tells whether m has lists of lengths that are named.
func rightMachine(m api.Machine) bool {
	h, l := false, false
	for n, k := 1, 0; k <= 12; n, k = 2*n, k+1 {
		h = h || k <= 8 && len(m.H) == n
		l = l || len(m.M) == n
	}
	return h && l
}

// spot is where a number stands, and what is left of one that is put there.
func (w *words) spot(place int) (*uint64, uint64) {
	switch {
	case place < 4:
		return &w.reg[place], wrap
	case place < 6:
		return &w.m[w.reg[place-3]%uint64(len(w.m))], 256
	}
	return &w.h[w.reg[3]%uint64(len(w.h))], wrap
}

func (w *words) get(place, n int) uint64 {
	if place == 7 {
		return uint64(n)
	}
	p, _ := w.spot(place)
	return *p
}

func (w *words) put(place int, x uint64) {
	p, most := w.spot(place)
	*p = x % most
}

// turned is all bits of x turned.
func turned(x uint64) uint64 { return wrap - 1 - x }

// bitwise is made of the bits of a and x, two by two.
func bitwise(a, x uint64, both func(p, q uint64) bool) uint64 {
	sum := uint64(0)
	for worth := uint64(1); worth < wrap; worth *= 2 {
		if both(a%2, x%2) {
			sum += worth
		}
		a, x = a/2, x/2
	}
	return sum
}

func and(p, q uint64) bool { return p+q == 2 }
func or(p, q uint64) bool  { return p+q > 0 }
func xor(p, q uint64) bool { return p != q }

// shifted is a, doubled or halved so often.
func shifted(a, often uint64, up bool) uint64 {
	for range often {
		if up {
			a = a * 2 % wrap
		} else {
			a /= 2
		}
	}
	return a
}

// divided is how often x goes into a, and the rest; noughts, if x is 0.
func divided(a, x uint64) (uint64, uint64) {
	if x == 0 {
		return 0, 0
	}
	return a / x, a % x
}

// reckoned is what a row from OAdd to OShr makes of A and x.
func reckoned(op api.Op, a, x uint64) uint64 {
	q, rest := divided(a, x)
	return [...]uint64{
		a + x, a + wrap - x, a * x % wrap, q, rest,
		bitwise(a, x, and), bitwise(a, turned(x), and), bitwise(a, x, or), bitwise(a, x, xor),
		shifted(a, x%32, true), shifted(a, x%32, false),
	}[op-8] % wrap
}

// do does a right instruction of the table.
func (w *words) do(i api.Ins) {
	a := w.reg[0]
	switch op := i.Op; {
	case op == 1:
		w.put(i.D, w.get(i.S, i.N))
	case op == 2:
		w.put(i.D, uint64(i.N))
	case op <= 6:
		y := w.get(i.D, 0)
		w.put(i.D, [...]uint64{y + 1, y + wrap - 1, turned(y), 0}[op-3])
	case op == 7:
		p, most := w.spot(i.D)
		w.reg[0], *p = *p, a%most
	case op <= 18:
		w.reg[0] = reckoned(op, a, w.get(i.S, i.N))
	case op <= 21:
		x := w.get(i.S, i.N)
		w.f = [...]bool{a == x, a < x, a > x}[op-19]
	case op == 22:
		w.put(i.D, w.r[i.N])
	case op == 23:
		w.r[i.N] = a
	case op == 24:
		w.reg[0] = (a + w.get(4, 0) + 512) * 773 % wrap
	case op == 25:
		w.put(6, (w.get(6, 0)+a+512)*773%wrap)
	}
}

// doOf is what Do says.
func doOf(i api.Ins, m api.Machine) api.Machine {
	if code.Right(i) != api.OK || !rightMachine(m) {
		return m
	}
	w := read(m)
	w.do(i)
	return w.told()
}

// holdsOf is what Holds says.
func holdsOf(i api.Ins, m api.Machine) bool {
	if i.Op < 19 || i.Op > 21 || code.Right(i) != api.OK || !rightMachine(m) {
		return false
	}
	return doOf(i, m).F
}

// runOf is what Run says; and how many rounds and bytes there were.
func runOf(b []byte, post bool, m api.Machine, fuel, most int) (api.Machine, []byte, api.Errno, int) {
	nothing := api.Machine{}
	if e := valid.Check(b, post); e != api.OK {
		return nothing, nil, e, 0
	}
	if !rightMachine(m) {
		return nothing, nil, api.ErrArg, 0
	}
	w := read(m)
	var out []byte
	for at, rounds := 0, 0; ; {
		i, behind, _ := code.Get(b, at)
		goes := i.Op == 29 || i.Op == 30 || i.Op == 27 && w.f || i.Op == 28 && !w.f
		switch {
		case i.Op == 0:
			return w.told(), out, api.OK, rounds
		case i.Op == 26 && len(out) >= most:
			return nothing, nil, api.ErrOut, rounds
		case i.Op == 26:
			out = append(out, byte(w.reg[0]%256))
		case goes && i.N <= at && rounds >= fuel:
			return nothing, nil, api.ErrFuel, rounds
		case goes && i.N <= at:
			rounds++
		default:
			w.do(i)
		}
		at = behind
		if goes {
			at = i.N
		}
	}
}
