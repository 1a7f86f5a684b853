package vm

import (
	"bytes"
	"math"
	"math/rand"
	"slices"
	"strconv"
	"testing"

	"quillpress/api"
	"quillpress/code"
	"quillpress/valid"
)

// edges are numbers of 32 bits about which something changes.
var edges = []uint32{0, 1, 2, 3, 4, 7, 8, 31, 32, 33, 127, 128, 255, 256, 257, 511, 773, 65535, 65536, 1 << 31, 1<<31 - 1, 1<<32 - 2, 1<<32 - 1}

// same tells whether two machines are one by one the same.
func same(a, b api.Machine) bool {
	return a.A == b.A && a.B == b.B && a.C == b.C && a.D == b.D && a.F == b.F && a.R == b.R && slices.Equal(a.H, b.H) && slices.Equal(a.M, b.M)
}

// shown is what can be read of a machine.
func shown(m api.Machine) string {
	s := "A " + text(m.A) + " B " + text(m.B) + " C " + text(m.C) + " D " + text(m.D) + " F " + strconv.FormatBool(m.F)
	for k, x := range m.R {
		if x != 0 {
			s += " R" + strconv.Itoa(k) + " " + text(x)
		}
	}
	s += " H"
	for _, x := range m.H[:min(len(m.H), 16)] {
		s += " " + text(x)
	}
	s += " M"
	for _, x := range m.M[:min(len(m.M), 16)] {
		s += " " + strconv.Itoa(int(x))
	}
	return s
}

func text(x uint32) string { return strconv.FormatUint(uint64(x), 10) }

// made is a machine that New must answer.
func made(t *testing.T, h, m int) api.Machine {
	t.Helper()
	x, e := New(h, m)
	if e != api.OK {
		t.Fatalf("New(%d, %d): %d", h, m, e)
	}
	return x
}

// copied is m with lists of its own.
func copied(m api.Machine) api.Machine {
	m.H, m.M = slices.Clone(m.H), slices.Clone(m.M)
	return m
}

// laidOut is the bytes of instructions, one behind the other; each must be right where it comes to stand.
func laidOut(t *testing.T, l ...api.Ins) []byte {
	t.Helper()
	var b []byte
	for _, i := range l {
		x, e := code.Put(i, len(b))
		if e != api.OK {
			t.Fatalf("Put of %+v at %d: %d", i, len(b), e)
		}
		b = append(b, x...)
	}
	return b
}

// does asks that Do comes to this, and leaves what it was handed.
func does(t *testing.T, i api.Ins, m, want api.Machine) {
	t.Helper()
	was := copied(m)
	if x := Do(i, m); !same(x, want) {
		t.Fatalf("%+v of\n%s\ncomes to\n%s\nnot\n%s", i, shown(m), shown(x), shown(want))
	}
	if !same(m, was) {
		t.Fatalf("%+v changed\n%s\nto\n%s", i, shown(was), shown(m))
	}
}

// runs asks that Run comes to this, and leaves what it was handed.
func runs(t *testing.T, b []byte, post bool, m api.Machine, fuel, most int, want api.Machine, put []byte) {
	t.Helper()
	was := copied(m)
	x, out, e := Run(b, post, m, fuel, most)
	if e != api.OK || !same(x, want) || !bytes.Equal(out, put) {
		t.Fatalf("Run of %v, %d, %d on\n%s\ncomes to %d, %v\n%s\nnot %v\n%s", b, fuel, most, shown(m), e, out, shown(x), put, shown(want))
	}
	if !same(m, was) {
		t.Fatalf("Run of %v changed\n%s\nto\n%s", b, shown(was), shown(m))
	}
}

// refused asks that Run refuses so, with nothing beside, and leaves what it was handed.
func refused(t *testing.T, b []byte, post bool, m api.Machine, fuel, most int, want api.Errno) {
	t.Helper()
	was := copied(m)
	x, out, e := Run(b, post, m, fuel, most)
	if e != want || len(out) != 0 || !same(x, api.Machine{}) {
		t.Fatalf("Run of %v, %v, %d, %d: %d, %v\n%s\nnot %d", b, post, fuel, most, e, out, shown(x), want)
	}
	if !same(m, was) {
		t.Fatalf("Run of %v changed\n%s\nto\n%s", b, shown(was), shown(m))
	}
}

// asTold holds what Run says against the words; what they say, and how many rounds there were.
func asTold(t *testing.T, b []byte, post bool, m api.Machine, fuel, most int) ([]byte, api.Errno, int) {
	t.Helper()
	x, out, e, rounds := runOf(b, post, m, fuel, most)
	if e != api.OK {
		refused(t, b, post, m, fuel, most, e)
	} else {
		runs(t, b, post, m, fuel, most, x, out)
	}
	return out, e, rounds
}

// any32 is a chance number: an edge, a small one, or any.
func any32(r *rand.Rand) uint32 {
	switch r.Intn(3) {
	case 0:
		return edges[r.Intn(len(edges))]
	case 1:
		return uint32(r.Intn(20))
	}
	return r.Uint32()
}

// anyMachine is a chance machine with 2^h numbers and 2^l bytes.
func anyMachine(r *rand.Rand, h, l int) api.Machine {
	m := api.Machine{A: any32(r), B: any32(r), C: any32(r), D: any32(r), F: r.Intn(2) == 1, H: make([]uint32, 1<<h), M: make([]byte, 1<<l)}
	for k := range m.R {
		m.R[k] = any32(r)
	}
	for k := range m.H {
		m.H[k] = any32(r)
	}
	r.Read(m.M)
	return m
}

// wrongMachines have lists of lengths that may not be.
func wrongMachines() []api.Machine {
	l := []api.Machine{{}, {A: 7, F: true}}
	for _, n := range []int{0, 3, 5, 6, 7, 12, 255, 257, 384, 512, 1024, 65536} {
		l = append(l, api.Machine{A: 7, F: true, H: make([]uint32, n), M: make([]byte, 4)})
	}
	for _, n := range []int{0, 3, 5, 6, 7, 12, 4095, 4097, 6144, 8192, 65536} {
		l = append(l, api.Machine{A: 7, F: true, H: make([]uint32, 4), M: make([]byte, n)})
	}
	return append(l, api.Machine{A: 7, H: make([]uint32, 3), M: make([]byte, 3)})
}

// The chapter's examples.
func TestExamples(t *testing.T) {
	m := made(t, 1, 1)
	want := made(t, 1, 1)
	want.A = 5
	does(t, api.Ins{Op: api.OSetN, D: 0, N: 5}, m, want)
	m = want
	want.A = 399641
	does(t, api.Ins{Op: api.OHash}, m, want)
	m = made(t, 1, 1)
	want.A = 1
	runs(t, []byte{24, 0}, false, m, 0, 0, want, nil)
	for _, fuel := range []int{math.MinInt, -1, 0, 1, 2, 32, 1000, 1<<31 - 1, 1 << 31, 1 << 62, math.MaxInt} {
		refused(t, []byte{232, 254}, false, m, fuel, 0, api.ErrFuel)
		refused(t, []byte{232, 254}, true, m, fuel, 0, api.ErrFuel)
	}
	refused(t, []byte{208, 208, 0}, true, m, 0, 1, api.ErrOut)
	runs(t, []byte{208, 208, 0}, true, m, 0, 2, m, []byte{0, 0})
}

// P17.1: New, at each size that may be, and about and far from those.
func TestNew(t *testing.T) {
	far := []int{math.MinInt, math.MinInt + 1, -1 << 32, -64, -8, -2, -1, 9, 10, 12, 13, 14, 16, 31, 32, 63, 64, 65, 256, 1 << 32, 1<<32 + 1, math.MaxInt}
	for h := range 9 {
		for l := range 13 {
			m := made(t, h, l)
			want := api.Machine{H: make([]uint32, []int{1, 2, 4, 8, 16, 32, 64, 128, 256}[h])}
			want.M = make([]byte, []int{1, 2, 4, 8, 16, 32, 64, 128, 256, 512, 1024, 2048, 4096}[l])
			if !same(m, want) {
				t.Fatalf("New(%d, %d):\n%s", h, l, shown(m))
			}
			// It is right: something is done to it.
			if x := Do(api.Ins{Op: api.OInc}, m); x.A != 1 {
				t.Fatalf("nothing is done to New(%d, %d)", h, l)
			}
		}
	}
	unwanted := func(h, l int) {
		t.Helper()
		if m, e := New(h, l); e != api.ErrArg || !same(m, api.Machine{}) {
			t.Fatalf("New(%d, %d): %d\n%s", h, l, e, shown(m))
		}
	}
	for _, n := range far {
		for ok := range 9 {
			unwanted(n, ok)
		}
		for _, other := range far {
			unwanted(n, other)
		}
		if n < 0 || n > 12 {
			for ok := range 9 {
				unwanted(ok, n)
			}
		}
	}
}

// P17.1: what New answers is memory of its own, spare room too.
func TestNewApart(t *testing.T) {
	a, b := made(t, 3, 5), made(t, 3, 5)
	spoil(a)
	if !same(b, made(t, 3, 5)) {
		t.Fatal("two machines share memory")
	}
}

// spoil changes all of m's lists, spare room too.
func spoil(m api.Machine) {
	h, l := m.H[:cap(m.H)], m.M[:cap(m.M)]
	for k := range h {
		h[k] ^= 1<<32 - 1
	}
	for k := range l {
		l[k] ^= 255
	}
}

// P17.1: each Op by numbers that were worked out apart. M(B) is M[1], M(C) is M[2], H(D) is H[1].
func TestEachOp(t *testing.T) {
	start := made(t, 2, 3)
	start.A, start.B, start.C, start.D = 1000, 9, 2, 4294967293
	start.H[1], start.M[1], start.M[2] = 4294967295, 200, 0
	start.R[0], start.R[255] = 77, 4294967040
	type change func(m *api.Machine)
	a := func(x uint32) change { return func(m *api.Machine) { m.A = x } }
	f := func(x bool) change { return func(m *api.Machine) { m.F = x } }
	set := func(d, s, n int, c change) {
		t.Helper()
		for i, ins := range []api.Ins{{Op: api.OSet, D: d, S: s}, {Op: api.OSetN, D: d, N: n}} {
			if i == 0 && s < 0 || i == 1 && n < 0 {
				continue
			}
			want := copied(start)
			c(&want)
			does(t, ins, start, want)
		}
	}
	one := func(i api.Ins, c change) {
		t.Helper()
		want := copied(start)
		c(&want)
		does(t, i, start, want)
	}
	set(0, 1, 9, a(9))
	set(0, 4, 200, a(200))
	set(0, 6, -1, a(4294967295))
	set(1, 0, -1, func(m *api.Machine) { m.B = 1000 })
	set(1, 4, 200, func(m *api.Machine) { m.B = 200 })
	set(2, 3, -1, func(m *api.Machine) { m.C = 4294967293 })
	set(3, 2, 2, func(m *api.Machine) { m.D = 2 })
	set(3, 6, -1, func(m *api.Machine) { m.D = 4294967295 })
	set(4, 0, 232, func(m *api.Machine) { m.M[1] = 232 })
	set(4, 5, 0, func(m *api.Machine) { m.M[1] = 0 })
	set(5, 6, 255, func(m *api.Machine) { m.M[2] = 255 })
	set(5, 3, 253, func(m *api.Machine) { m.M[2] = 253 })
	set(6, 0, -1, func(m *api.Machine) { m.H[1] = 1000 })
	set(6, 4, 200, func(m *api.Machine) { m.H[1] = 200 })
	set(6, 6, -1, func(*api.Machine) {})
	one(api.Ins{Op: api.OInc, D: 0}, a(1001))
	one(api.Ins{Op: api.OInc, D: 4}, func(m *api.Machine) { m.M[1] = 201 })
	one(api.Ins{Op: api.OInc, D: 6}, func(m *api.Machine) { m.H[1] = 0 })
	one(api.Ins{Op: api.ODec, D: 1}, func(m *api.Machine) { m.B = 8 })
	one(api.Ins{Op: api.ODec, D: 5}, func(m *api.Machine) { m.M[2] = 255 })
	one(api.Ins{Op: api.ONot, D: 2}, func(m *api.Machine) { m.C = 4294967293 })
	one(api.Ins{Op: api.ONot, D: 4}, func(m *api.Machine) { m.M[1] = 55 })
	one(api.Ins{Op: api.ONot, D: 6}, func(m *api.Machine) { m.H[1] = 0 })
	one(api.Ins{Op: api.OZero, D: 3}, func(m *api.Machine) { m.D = 0 })
	one(api.Ins{Op: api.OZero, D: 4}, func(m *api.Machine) { m.M[1] = 0 })
	one(api.Ins{Op: api.OSwap, D: 0}, func(*api.Machine) {})
	one(api.Ins{Op: api.OSwap, D: 1}, func(m *api.Machine) { m.A, m.B = 9, 1000 })
	one(api.Ins{Op: api.OSwap, D: 3}, func(m *api.Machine) { m.A, m.D = 4294967293, 1000 })
	one(api.Ins{Op: api.OSwap, D: 4}, func(m *api.Machine) { m.A, m.M[1] = 200, 232 })
	one(api.Ins{Op: api.OSwap, D: 6}, func(m *api.Machine) { m.A, m.H[1] = 4294967295, 1000 })
	one(api.Ins{Op: api.OAdd, S: 0}, a(2000))
	one(api.Ins{Op: api.OAdd, S: 6}, a(999))
	one(api.Ins{Op: api.OAdd, S: 7, N: 255}, a(1255))
	one(api.Ins{Op: api.OSub, S: 1}, a(991))
	one(api.Ins{Op: api.OSub, S: 3}, a(1003))
	one(api.Ins{Op: api.OMul, S: 4}, a(200000))
	one(api.Ins{Op: api.OMul, S: 6}, a(4294966296))
	one(api.Ins{Op: api.ODiv, S: 1}, a(111))
	one(api.Ins{Op: api.ODiv, S: 5}, a(0))
	one(api.Ins{Op: api.ODiv, S: 7}, a(0))
	one(api.Ins{Op: api.OMod, S: 1}, a(1))
	one(api.Ins{Op: api.OMod, S: 5}, a(0))
	one(api.Ins{Op: api.OMod, S: 7, N: 7}, a(6))
	one(api.Ins{Op: api.OAnd, S: 7, N: 248}, a(232))
	one(api.Ins{Op: api.OAndN, S: 7, N: 248}, a(768))
	one(api.Ins{Op: api.OAndN, S: 6}, a(0))
	one(api.Ins{Op: api.OOr, S: 7, N: 23}, a(1023))
	one(api.Ins{Op: api.OXor, S: 7, N: 255}, a(791))
	one(api.Ins{Op: api.OXor, S: 0}, a(0))
	one(api.Ins{Op: api.OShl, S: 2}, a(4000))
	one(api.Ins{Op: api.OShl, S: 7, N: 31}, a(0))
	one(api.Ins{Op: api.OShl, S: 7, N: 32}, a(1000))
	one(api.Ins{Op: api.OShl, S: 3}, a(0))
	one(api.Ins{Op: api.OShl, S: 7, N: 28}, a(2147483648))
	one(api.Ins{Op: api.OShr, S: 2}, a(250))
	one(api.Ins{Op: api.OShr, S: 7, N: 33}, a(500))
	one(api.Ins{Op: api.OShr, S: 7, N: 255}, a(0))
	one(api.Ins{Op: api.OEq, S: 0}, f(true))
	one(api.Ins{Op: api.OEq, S: 1}, f(false))
	one(api.Ins{Op: api.OLt, S: 3}, f(true))
	one(api.Ins{Op: api.OLt, S: 0}, f(false))
	one(api.Ins{Op: api.OLt, S: 1}, f(false))
	one(api.Ins{Op: api.OGt, S: 4}, f(true))
	one(api.Ins{Op: api.OGt, S: 0}, f(false))
	one(api.Ins{Op: api.OGt, S: 6}, f(false))
	one(api.Ins{Op: api.OLoad, D: 0, N: 0}, a(77))
	one(api.Ins{Op: api.OLoad, D: 3, N: 255}, func(m *api.Machine) { m.D = 4294967040 })
	one(api.Ins{Op: api.OLoad, D: 2, N: 1}, func(m *api.Machine) { m.C = 0 })
	one(api.Ins{Op: api.OStore, N: 255}, func(m *api.Machine) { m.R[255] = 1000 })
	one(api.Ins{Op: api.OStore, N: 1}, func(m *api.Machine) { m.R[1] = 1000 })
	one(api.Ins{Op: api.OHash}, a(1323376))
	one(api.Ins{Op: api.OHashD}, func(m *api.Machine) { m.H[1] = 1168003 })
}

// each tells all right instructions of the table, of those with an N of many: the edges' ones.
func each(tell func(i api.Ins)) {
	for op := range 32 {
		for d := range 8 {
			for s := range 8 {
				for _, n := range []int{0, 1, 2, 3, 7, 31, 32, 33, 64, 127, 128, 200, 254, 255} {
					i := api.Ins{Op: api.Op(op), D: d, S: s, N: n}
					if op >= 1 && op <= 25 && code.Right(i) == api.OK {
						tell(i)
					}
				}
			}
		}
	}
}

// P17.1: each instruction on machines of all sizes, against the words.
func TestDoAgainstWords(t *testing.T) {
	r := rand.New(rand.NewSource(17))
	each(func(i api.Ins) {
		for h := range 9 {
			m := anyMachine(r, h, r.Intn(13))
			does(t, i, m, doOf(i, m))
		}
		for l := range 13 {
			m := anyMachine(r, r.Intn(9), l)
			does(t, i, m, doOf(i, m))
		}
	})
}

// P17.1: what is made of A and each other number, at both numbers' edges.
func TestReckonings(t *testing.T) {
	m := made(t, 0, 0)
	for op := api.OAdd; op <= api.OGt; op++ {
		for _, a := range edges {
			for _, x := range edges {
				m.A, m.B, m.H[0] = a, x, x
				for _, f := range []bool{false, true} {
					m.F = f
					does(t, api.Ins{Op: op, S: 1}, m, doOf(api.Ins{Op: op, S: 1}, m))
					does(t, api.Ins{Op: op, S: 6}, m, doOf(api.Ins{Op: op, S: 6}, m))
				}
			}
			for n := range 256 {
				i := api.Ins{Op: op, S: 7, N: n}
				does(t, i, m, doOf(i, m))
			}
		}
	}
}

// P17.1: each cell by its own number.
func TestCells(t *testing.T) {
	m := made(t, 0, 0)
	for n := range 256 {
		m.A = uint32(n) + 1<<20
		m = Do(api.Ins{Op: api.OStore, N: n}, m)
	}
	for n := range 256 {
		if m.R[n] != uint32(n)+1<<20 {
			t.Fatalf("R(%d) is %d", n, m.R[n])
		}
		for d := range 4 {
			want := read(m)
			want.reg[d] = uint64(n) + 1<<20
			does(t, api.Ins{Op: api.OLoad, D: d, N: n}, m, want.told())
		}
	}
}

// P17.1: places of the lists are found modulo how many there are, by B, C and D, as numbers of 32 bits.
func TestPlaces(t *testing.T) {
	for h := range 9 {
		for l := range 13 {
			for _, x := range append([]uint32{4094, 4095, 4096, 4097, 8191}, edges...) {
				m := made(t, h, l)
				m.B, m.C, m.D = x, x+1, x+2
				w := copied(m)
				w.M[int(x%(1<<l))] = 1
				does(t, api.Ins{Op: api.OInc, D: 4}, m, w)
				w = copied(m)
				w.M[int((x+1)%(1<<l))] = 1
				does(t, api.Ins{Op: api.OInc, D: 5}, m, w)
				w = copied(m)
				w.H[int((x+2)%(1<<h))] = 1
				does(t, api.Ins{Op: api.OInc, D: 6}, m, w)
				w.H[int((x+2)%(1<<h))] = 512 * 773
				does(t, api.Ins{Op: api.OHashD}, m, w)
				m.M[int(x%(1<<l))] = 9
				w = copied(m)
				w.A = 521 * 773
				does(t, api.Ins{Op: api.OHash}, m, w)
			}
		}
	}
}

// P17.1: what is put at a place by whose number the place is found stands where it was found ahead of it.
func TestFoundAhead(t *testing.T) {
	m := made(t, 1, 1)
	m.M[0], m.M[1], m.H[0], m.H[1] = 1, 0, 1, 0
	for _, x := range []struct{ from, to int }{{4, 1}, {5, 2}, {6, 3}} {
		w := read(m)
		w.reg[x.to] = 1
		does(t, api.Ins{Op: api.OSet, D: x.to, S: x.from}, m, w.told())
	}
	m.A = 1
	w := copied(m)
	w.A, w.B = 0, 1
	does(t, api.Ins{Op: api.OSwap, D: 1}, m, w)
}

// P17.1: what is not right, none of the table, or for a machine that is not right, is not done.
func TestNotDone(t *testing.T) {
	r := rand.New(rand.NewSource(18))
	m := anyMachine(r, 3, 4)
	// Whatever is made of A can be told from it.
	m.A, m.B, m.F = 1000, 7, true
	for op := range 256 {
		for _, d := range []int{math.MinInt, -8, -1, 0, 3, 4, 6, 7, 8, 1 << 32, math.MaxInt} {
			for _, s := range []int{math.MinInt, -8, -1, 0, 1, 6, 7, 8, 1 << 32, math.MaxInt} {
				for _, n := range []int{math.MinInt, -1, 0, 1, 255, 256, 65535, 65536, 1 << 32, math.MaxInt} {
					i := api.Ins{Op: api.Op(op), D: d, S: s, N: n}
					if op < 1 || op > 25 || code.Right(i) != api.OK {
						does(t, i, m, m)
					}
					if Holds(i, m) != holdsOf(i, m) {
						t.Fatalf("Holds of %+v", i)
					}
				}
			}
		}
	}
	for _, m := range wrongMachines() {
		each(func(i api.Ins) {
			does(t, i, m, m)
			if Holds(i, m) {
				t.Fatalf("Holds of %+v on a machine that is not right", i)
			}
		})
	}
}

// P17.1: Holds is what F would be, whatever it is; and false of all that does not compare.
func TestHolds(t *testing.T) {
	r := rand.New(rand.NewSource(19))
	for _, x := range []struct {
		a, n       int
		eq, lt, gt bool
	}{{4, 5, false, true, false}, {5, 5, true, false, false}, {6, 5, false, false, true}, {-1, 255, false, false, true}, {0, 0, true, false, false}} {
		m := made(t, 0, 0)
		m.A = uint32(x.a)
		for _, f := range []bool{false, true} {
			m.F = f
			for k, want := range []bool{x.eq, x.lt, x.gt} {
				if Holds(api.Ins{Op: api.OEq + api.Op(k), S: 7, N: x.n}, m) != want {
					t.Fatalf("Op %d of %d and %d is not %v", int(api.OEq)+k, x.a, x.n, want)
				}
			}
		}
	}
	each(func(i api.Ins) {
		for range 10 {
			m := anyMachine(r, r.Intn(9), r.Intn(13))
			if r.Intn(2) == 0 {
				m.A = uint32(read(m).get(i.S, i.N))
			}
			was := copied(m)
			got := Holds(i, m)
			if got != holdsOf(i, m) || got && (i.Op < api.OEq || i.Op > api.OGt) {
				t.Fatalf("Holds of %+v on\n%s\nis %v", i, shown(m), got)
			}
			if i.Op >= api.OEq && i.Op <= api.OGt && got != Do(i, m).F {
				t.Fatalf("Holds and Do of %+v differ", i)
			}
			if !same(m, was) {
				t.Fatalf("Holds of %+v changed what it was handed", i)
			}
		}
	})
	m := made(t, 0, 0)
	m.F = true
	for op := range 256 {
		i := api.Ins{Op: api.Op(op)}
		if want := op == 19; Holds(i, m) != want {
			t.Fatalf("Holds of Op %d is not %v", op, want)
		}
	}
}

// R3: what Do and Run answer is memory of its own, also where nothing is done; what they were handed stays, spare room too.
func TestMemory(t *testing.T) {
	r := rand.New(rand.NewSource(20))
	roomy := func(h, l int) (m, all api.Machine) {
		all = anyMachine(r, 8, 12)
		m = all
		m.H, m.M = all.H[:h], all.M[:l]
		return m, all
	}
	out := []byte{208, 24, 208, 200, 36, 0}
	for range 200 {
		for _, ok := range []bool{true, false} {
			h, l := 1<<r.Intn(9), 1<<r.Intn(13)
			if !ok {
				h = 3
			}
			m, all := roomy(h, l)
			was := copied(all)
			each(func(i api.Ins) {
				if r.Intn(40) == 0 {
					spoil(Do(i, m))
				}
			})
			for _, i := range []api.Ins{{}, {Op: api.OOut}, {Op: api.OJmp}, {Op: 77}, {Op: api.OInc, D: 9}} {
				spoil(Do(i, m))
			}
			if x, put, e := Run(out, true, m, 0, 9); e == api.OK {
				spoil(x)
				clear(put[:cap(put)])
			} else if ok || e != api.ErrArg {
				t.Fatal(e)
			}
			if !same(all, was) {
				t.Fatal("an answer shares memory with what was handed in")
			}
		}
	}
	m, _ := roomy(2, 2)
	x, put, _ := Run(out, true, m, 0, 9)
	y, other, _ := Run(out, true, m, 0, 9)
	spoil(x)
	clear(put[:cap(put)])
	if want, bytesPut, _, _ := runOf(out, true, m, 0, 9); !same(y, want) || !bytes.Equal(other, bytesPut) {
		t.Fatal("two answers share memory")
	}
	if !bytes.Equal(out, []byte{208, 24, 208, 200, 36, 0}) {
		t.Fatal("the code was changed")
	}
}

// P17.2: valid.Check's error comes first, then ErrArg, whatever the program would do.
func TestErrorsInOrder(t *testing.T) {
	good := made(t, 0, 0)
	codes := [][]byte{nil, {}, {24}, {232, 255}, {255}, {9}, {208, 208}, make([]byte, 4097), bytes.Repeat([]byte{255}, 5000)}
	for _, b := range codes {
		for _, post := range []bool{false, true} {
			e := valid.Check(b, post)
			if e == api.OK {
				t.Fatal(b)
			}
			refused(t, b, post, good, 0, 0, e)
			refused(t, b, post, good, 100, 100, e)
			for _, m := range wrongMachines() {
				refused(t, b, post, m, 1, 1, e)
			}
		}
	}
	for _, b := range [][]byte{{208, 0}, {232, 1, 208, 0}, {0, 208, 0}} {
		refused(t, b, false, good, 9, 9, api.ErrCode)
	}
	for _, m := range wrongMachines() {
		refused(t, []byte{0}, false, m, 0, 0, api.ErrArg)
		refused(t, []byte{232, 254}, false, m, 0, 0, api.ErrArg)
		refused(t, []byte{208, 0}, true, m, 0, 0, api.ErrArg)
		refused(t, []byte{208, 0}, false, m, 0, 0, api.ErrCode)
	}
	// The longest program, of one instruction a byte.
	long := bytes.Repeat([]byte{24}, 4096)
	long[4095] = 0
	want := made(t, 0, 0)
	want.A = 4095
	runs(t, long, false, good, 0, 0, want, nil)
	refused(t, append([]byte{24}, long...), false, good, 0, 0, api.ErrLong)
}

// P17.2: the program goes on with the machine as it is handed in: its flag, its registers, its cells, its lists.
func TestGoesOn(t *testing.T) {
	r := rand.New(rand.NewSource(21))
	for range 200 {
		m := anyMachine(r, r.Intn(9), r.Intn(13))
		runs(t, []byte{0}, false, m, 0, 0, m, nil)
		// 0: OJt 4; 2: OInc A; 3: OHalt; 4: OInc B; 5: OHalt
		want := m
		if m.F {
			want.B++
		} else {
			want.A++
		}
		runs(t, []byte{216, 2, 24, 0, 25, 0}, false, m, 0, 0, want, nil)
		runs(t, []byte{224, 2, 25, 0, 24, 0}, false, m, 0, 0, want, nil)
	}
}

// jumping is a loop of a kind: from A on down, each number put out, till A is 0.
func jumping(t *testing.T, op api.Op) []byte {
	t.Helper()
	head := []api.Ins{{Op: api.OOut}, {Op: api.ODec}, {Op: api.OEq, S: api.Imm}}
	switch op {
	case api.OJt:
		return laidOut(t, append(head, api.Ins{Op: api.OGt, S: api.Imm}, api.Ins{Op: op}, api.Ins{})...)
	case api.OJf:
		return laidOut(t, append(head, api.Ins{Op: op}, api.Ins{})...)
	}
	// Behind the four bytes ahead: OJf over the OHalt at 6, then back.
	return laidOut(t, append(head, api.Ins{Op: api.OJf, N: 7}, api.Ins{}, api.Ins{Op: op})...)
}

// P17.2: rounds of each kind of jump: as many as there is fuel, and not one more.
func TestRounds(t *testing.T) {
	for _, op := range []api.Op{api.OJt, api.OJf, api.OJmp, api.OLj} {
		b := jumping(t, op)
		for _, n := range []int{1, 2, 3, 10, 33, 255} {
			m := made(t, 1, 1)
			m.A = uint32(n)
			var put []byte
			for k := n; k > 0; k-- {
				put = append(put, byte(k))
			}
			want := made(t, 1, 1)
			want.F = op != api.OJt
			for _, fuel := range []int{n - 1, n, n + 1, 1000, math.MaxInt} {
				runs(t, b, true, m, fuel, n, want, put)
				runs(t, b, true, m, fuel, math.MaxInt, want, put)
			}
			refused(t, b, true, m, n-1, n-1, api.ErrOut)
			refused(t, b, true, m, n-1, 0, api.ErrOut)
			refused(t, b, true, m, n-1, -1, api.ErrOut)
			if n > 1 {
				refused(t, b, true, m, n-2, n, api.ErrFuel)
				refused(t, b, true, m, 0, n, api.ErrFuel)
				refused(t, b, true, m, -1, n, api.ErrFuel)
				refused(t, b, true, m, math.MinInt, n, api.ErrFuel)
				// The last byte that fits is put out, then there is no fuel for the next one.
				refused(t, b, true, m, n-2, n-1, api.ErrFuel)
			}
		}
	}
}

// P17.2: jumps that are not taken, and jumps ahead, are no rounds.
func TestNoRounds(t *testing.T) {
	m := made(t, 0, 0)
	set := made(t, 0, 0)
	set.F = true
	for _, fuel := range []int{math.MinInt, -1, 0} {
		// To themselves and back, but not taken.
		runs(t, []byte{216, 254, 0}, false, m, fuel, 0, m, nil)
		runs(t, []byte{224, 254, 0}, false, set, fuel, 0, set, nil)
		runs(t, []byte{48, 216, 253, 0}, false, m, fuel, 0, m, nil)
		// Ahead, to what stands next, and over an OHalt.
		for _, b := range [][]byte{{232, 0, 0}, {240, 0, 3, 0}, {224, 0, 0}, {232, 1, 0, 0}, {240, 0, 4, 0, 0}, {224, 1, 0, 0}} {
			runs(t, b, false, m, fuel, 0, m, nil)
		}
		runs(t, []byte{216, 0, 0}, false, set, fuel, 0, set, nil)
		runs(t, []byte{216, 1, 0, 0}, false, set, fuel, 0, set, nil)
	}
	// Many jumps ahead, of all kinds that are taken, with no fuel at all.
	var b []byte
	for range 500 {
		b = append(b, 232, 0, 224, 0)
		b = append(b, laidOut(t, api.Ins{Op: api.OLj, N: len(b) + 3})...)
	}
	runs(t, append(b, 0), false, m, 0, 0, m, nil)
}

// P17.2: a jump to itself that is taken is a round, whatever kind it is, and none ends it.
func TestToThemselves(t *testing.T) {
	m := made(t, 0, 0)
	set := made(t, 0, 0)
	set.F = true
	for _, fuel := range []int{math.MinInt, -1, 0, 1, 31, 32, 33, 1 << 20, 1 << 40, math.MaxInt} {
		refused(t, []byte{216, 254, 0}, false, set, fuel, 0, api.ErrFuel)
		refused(t, []byte{224, 254, 0}, false, m, fuel, 0, api.ErrFuel)
		refused(t, []byte{232, 254}, false, m, fuel, 0, api.ErrFuel)
		refused(t, []byte{240, 0, 0}, false, m, fuel, 0, api.ErrFuel)
		refused(t, []byte{24, 24, 240, 0, 2}, false, m, fuel, 0, api.ErrFuel)
		refused(t, []byte{24, 232, 254, 0}, false, m, fuel, 0, api.ErrFuel)
		// What was put out ahead of it goes with it, and no room comes first where it is asked first.
		refused(t, []byte{208, 232, 254}, true, m, fuel, 1, api.ErrFuel)
		refused(t, []byte{208, 232, 254}, true, m, fuel, 0, api.ErrOut)
	}
	// Round two, of two instructions that jump to each other.
	for fuel := range 50 {
		refused(t, []byte{232, 0, 232, 252}, false, m, fuel, 0, api.ErrFuel)
	}
	refused(t, []byte{232, 0, 232, 252}, false, m, 1<<20, 0, api.ErrFuel)
}

// P17.2: what is put out: the lowest 8 bits of A, as many bytes as there is room for.
func TestOut(t *testing.T) {
	for _, a := range append([]uint32{0x12345678, 0xffffff00, 0xabcdef}, edges...) {
		m := made(t, 0, 0)
		m.A = a
		runs(t, []byte{208, 0}, true, m, 0, 1, m, []byte{byte(a % 256)})
		for _, most := range []int{0, -1, math.MinInt} {
			refused(t, []byte{208, 0}, true, m, 0, most, api.ErrOut)
			runs(t, []byte{0}, true, m, 0, most, m, nil)
			runs(t, []byte{0, 208, 0}, true, m, 0, most, m, nil)
		}
	}
	for _, n := range []int{1, 2, 7, 64, 1000, 4095} {
		b := append(bytes.Repeat([]byte{208}, n), 0)
		m := made(t, 0, 0)
		m.A = 300
		for _, most := range []int{n, n + 1, 1 << 31, math.MaxInt} {
			runs(t, b, true, m, 0, most, m, bytes.Repeat([]byte{44}, n))
		}
		for _, most := range []int{n - 1, n / 2, 0, -1} {
			refused(t, b, true, m, 9, most, api.ErrOut)
		}
	}
}

// some is a chance program of at most so many bytes: instructions of all kinds, mostly short jumps to starts near and far.
func some(r *rand.Rand, most int, post bool) []byte {
	var l []api.Ins
	var at []int
	size := 0
	for size+4 < most {
		i := someIns(r, post)
		l, at = append(l, i), append(at, size)
		size += code.Length(i)
	}
	l, at = append(l, api.Ins{}), append(at, size)
	var b []byte
	for k, i := range l {
		if i.Op >= api.OJt && i.Op <= api.OLj {
			i.N = at[r.Intn(len(at))]
			if r.Intn(2) == 0 {
				i.N = at[min(len(at)-1, k+1+r.Intn(4))]
			}
		}
		x, e := code.Put(i, len(b))
		if e != api.OK {
			// Too far for its byte: to itself.
			x, _ = code.Put(api.Ins{Op: i.Op, N: len(b)}, len(b))
		}
		b = append(b, x...)
	}
	return b
}

// someIns is a right instruction; where a jump goes is left open.
func someIns(r *rand.Rand, post bool) api.Ins {
	for {
		i := api.Ins{Op: api.Op(r.Intn(32)), D: r.Intn(8), S: r.Intn(8), N: r.Intn(256)}
		switch {
		case i.Op == api.OHalt && r.Intn(4) > 0, i.Op == api.OOut && !post:
			continue
		case i.Op >= api.OJt && i.Op <= api.OLj:
			return api.Ins{Op: i.Op}
		case r.Intn(2) == 0:
			i.N = r.Intn(4)
		}
		for _, x := range []api.Ins{i, {Op: i.Op, D: i.D}, {Op: i.Op, S: i.S}, {Op: i.Op, D: i.D, S: i.S}, {Op: i.Op, D: i.D, N: i.N}, {Op: i.Op, N: i.N}} {
			if code.Right(x) == api.OK {
				return x
			}
		}
	}
}

// P17.2, P17.3: chance programs on chance machines, against the words; with more fuel and room the same, with less an error.
func TestRunAgainstWords(t *testing.T) {
	r := rand.New(rand.NewSource(22))
	met := map[api.Errno]int{}
	round, long := 0, 0
	for range 20000 {
		post := r.Intn(3) > 0
		b := some(r, 5+r.Intn(60), post)
		m := anyMachine(r, r.Intn(9), r.Intn(13))
		fuel, most := r.Intn(40)-2, r.Intn(20)-2
		out, e, rounds := asTold(t, b, post, m, fuel, most)
		met[e]++
		if e != api.OK {
			continue
		}
		want, _, _ := Run(b, post, m, fuel, most)
		runs(t, b, post, m, rounds, len(out), want, out)
		runs(t, b, post, m, fuel+1+r.Intn(1000), most+1+r.Intn(1000), want, out)
		runs(t, b, post, m, math.MaxInt, math.MaxInt, want, out)
		runs(t, b, true, m, rounds, len(out), want, out)
		if rounds > 0 {
			round++
			refused(t, b, post, m, rounds-1, most, api.ErrFuel)
		}
		if len(out) > 0 {
			long++
			refused(t, b, post, m, fuel, len(out)-1, api.ErrOut)
		}
	}
	if met[api.OK] < 2000 || met[api.ErrFuel] < 2000 || met[api.ErrOut] < 500 || round < 200 || long < 500 {
		t.Fatalf("%v, %d of rounds, %d put out", met, round, long)
	}
	for range 100 {
		b := some(r, 3000+r.Intn(1097), true)
		asTold(t, b, true, anyMachine(r, r.Intn(9), r.Intn(13)), r.Intn(100), r.Intn(1000))
	}
}

// P17.3: a program that runs on with what it came to does what both, one behind the other, do.
func TestStepByStep(t *testing.T) {
	r := rand.New(rand.NewSource(23))
	for range 2000 {
		m := anyMachine(r, r.Intn(9), r.Intn(13))
		var l []api.Ins
		x := m
		for len(l) < 20 {
			i := someIns(r, false)
			if i.Op < api.OSet || i.Op > api.OHashD {
				continue
			}
			l = append(l, i)
			x = Do(i, x)
		}
		runs(t, laidOut(t, append(l, api.Ins{})...), false, m, 0, 0, x, nil)
	}
}

// P17.3, R1: any bytes and any numbers end, and go by the words.
func TestAnyBytes(t *testing.T) {
	r := rand.New(rand.NewSource(24))
	ran := 0
	for range 30000 {
		b := make([]byte, 1+r.Intn(6))
		r.Read(b)
		b[len(b)-1] *= byte(r.Intn(2))
		m := anyMachine(r, r.Intn(3), r.Intn(3))
		if _, e, _ := asTold(t, b, r.Intn(2) == 0, m, r.Intn(50)-5, r.Intn(9)-4); e != api.ErrCode {
			ran++
		}
	}
	if ran < 1000 {
		t.Fatalf("%d were run", ran)
	}
}

// P17.2: a million rounds, and as many bytes put out.
func TestManyRounds(t *testing.T) {
	// 0: OInc A; 1: OOut; 2: OLt B; 3: OJt 0; 5: OHalt
	b := []byte{24, 208, 161, 216, 251, 0}
	m := made(t, 0, 0)
	m.B = 1 << 20
	want := made(t, 0, 0)
	want.A, want.B = 1<<20, 1<<20
	x, out, e := Run(b, true, m, 1<<20-1, 1<<20)
	if e != api.OK || !same(x, want) || len(out) != 1<<20 || out[0] != 1 || out[254] != 255 || out[1<<20-1] != 0 {
		t.Fatal(e, len(out), shown(x))
	}
	refused(t, b, true, m, 1<<20-2, 1<<20, api.ErrFuel)
	refused(t, b, true, m, 1<<20-1, 1<<20-1, api.ErrOut)
}

// R4: the same each time, whatever ran in between.
func TestAgain(t *testing.T) {
	r := rand.New(rand.NewSource(25))
	b := some(r, 60, true)
	m := anyMachine(r, 2, 3)
	x, out, e := Run(b, true, m, 20, 20)
	for range 50 {
		Run(some(r, 60, true), true, anyMachine(r, 2, 3), 20, 20)
		y, other, f := Run(b, true, m, 20, 20)
		if e != f || !same(x, y) || !bytes.Equal(out, other) {
			t.Fatal("not the same again")
		}
	}
}

func BenchmarkRun(b *testing.B) {
	program := []byte{9, 0, 71, 5, 24, 27, 48, 200, 9, 0, 71, 5, 24, 0}
	m, _ := New(4, 8)
	b.ReportAllocs()
	for b.Loop() {
		Run(program, false, m, 32, 0)
	}
}

func BenchmarkRounds(b *testing.B) {
	// Four instructions a round, of which there are 1000.
	program := []byte{24, 200, 162, 216, 251, 0}
	m, _ := New(4, 8)
	m.C = 1000
	for b.Loop() {
		Run(program, false, m, 1000, 0)
	}
}
