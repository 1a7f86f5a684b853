package code

import (
	"bytes"
	"math"
	"math/rand"
	"slices"
	"testing"

	"quillpress/api"
)

// edges are numbers on both sides of each range's ends.
var edges = []int{-129, -128, -127, -2, -1, 0, 1, 2, 3, 4, 5, 6, 7, 8, 9, 127, 128, 129, 254, 255, 256, 257, 65534, 65535, 65536, 65537}

// far are numbers whose lowest bits, or whose sums, would be right.
var far = []int{math.MinInt, math.MinInt + 1, math.MinInt + 7, -1 << 32, -65536, -256, 1 << 31, 1 << 32, 1<<32 + 1, 1<<32 + 5, 1 << 62, math.MaxInt - 2, math.MaxInt - 1, math.MaxInt}

// places are some at which an instruction may stand, on both sides of what a jump's byte can tell.
var places = []int{0, 1, 2, 3, 125, 126, 127, 128, 129, 253, 254, 255, 256, 300, 4095, 32767, 32768, 65279, 65405, 65406, 65407, 65408, 65409, 65410, 65532, 65533, 65534, 65535}

// refusedPut asks that Put refuses so, and tells nothing beside.
func refusedPut(t *testing.T, i api.Ins, at int, want api.Errno) {
	t.Helper()
	if b, e := Put(i, at); e != want || len(b) != 0 {
		t.Fatalf("Put of %+v at %d: %v, %d; not %d", i, at, b, e, want)
	}
}

// refusedGet asks that Get refuses so, and tells nothing beside.
func refusedGet(t *testing.T, b []byte, at int, want api.Errno) {
	t.Helper()
	if i, n, e := Get(b, at); e != want || n != 0 || i != (api.Ins{}) {
		t.Fatalf("Get of %d bytes at %d: %+v, %d, %d; not %d", len(b), at, i, n, e, want)
	}
}

// gets asks that Get tells this.
func gets(t *testing.T, b []byte, at int, want api.Ins, end int) {
	t.Helper()
	if i, n, e := Get(b, at); e != api.OK || i != want || n != end {
		t.Fatalf("Get of %d bytes at %d: %+v, %d, %d; not %+v, %d", len(b), at, i, n, e, want, end)
	}
}

// put is the bytes of what must be taken.
func put(t *testing.T, i api.Ins, at int) []byte {
	t.Helper()
	b, e := Put(i, at)
	if e != api.OK {
		t.Fatalf("Put of %+v at %d: %d", i, at, e)
	}
	return b
}

// standing is b behind so many bytes that are no instruction.
func standing(b []byte, at int) []byte {
	return append(bytes.Repeat([]byte{255}, at), b...)
}

// P15.1, P15.2: the chapter's examples.
func TestExamples(t *testing.T) {
	for _, x := range []struct {
		i  api.Ins
		at int
		b  []byte
	}{
		{api.Ins{Op: api.OSet, D: 1, S: 0}, 0, []byte{9, 0}},
		{api.Ins{Op: api.OAdd, S: 7, N: 5}, 0, []byte{71, 5}},
		{api.Ins{Op: api.OJmp, N: 0}, 4, []byte{232, 250}},
	} {
		if b := put(t, x.i, x.at); !bytes.Equal(b, x.b) {
			t.Errorf("Put of %+v at %d: %v", x.i, x.at, b)
		}
		gets(t, standing(x.b, x.at), x.at, x.i, x.at+len(x.b))
		if n := Length(x.i); n != 2 {
			t.Errorf("Length of %+v: %d", x.i, n)
		}
	}
	refusedGet(t, []byte{232, 250}, 0, api.ErrCode)
	refusedGet(t, []byte{9}, 0, api.ErrShort)
	refusedPut(t, api.Ins{Op: api.OHalt, D: 1}, 0, api.ErrCode)
	if e := Right(api.Ins{Op: api.OHalt, D: 1}); e != api.ErrCode {
		t.Errorf("OHalt with D 1: %d", e)
	}
}

// P15.2: one of each Op, its bytes written out by hand.
func TestEachOp(t *testing.T) {
	for op, x := range []struct {
		i api.Ins
		b []byte
	}{
		{api.Ins{Op: api.OHalt}, []byte{0}},
		{api.Ins{Op: api.OSet, D: api.MemD, S: api.MemC}, []byte{14, 5}},
		{api.Ins{Op: api.OSetN, D: api.MemB, N: 200}, []byte{20, 200}},
		{api.Ins{Op: api.OInc, D: api.RegD}, []byte{27}},
		{api.Ins{Op: api.ODec, D: api.MemD}, []byte{38}},
		{api.Ins{Op: api.ONot, D: api.RegB}, []byte{41}},
		{api.Ins{Op: api.OZero, D: api.RegA}, []byte{48}},
		{api.Ins{Op: api.OSwap, D: api.MemC}, []byte{61}},
		{api.Ins{Op: api.OAdd, S: api.RegC}, []byte{66}},
		{api.Ins{Op: api.OSub, S: api.Imm, N: 255}, []byte{79, 255}},
		{api.Ins{Op: api.OMul, S: api.Imm}, []byte{87, 0}},
		{api.Ins{Op: api.ODiv, S: api.MemD}, []byte{94}},
		{api.Ins{Op: api.OMod, S: api.RegA}, []byte{96}},
		{api.Ins{Op: api.OAnd, S: api.RegB}, []byte{105}},
		{api.Ins{Op: api.OAndN, S: api.MemB}, []byte{116}},
		{api.Ins{Op: api.OOr, S: api.MemC}, []byte{125}},
		{api.Ins{Op: api.OXor, S: api.RegD}, []byte{131}},
		{api.Ins{Op: api.OShl, S: api.Imm, N: 31}, []byte{143, 31}},
		{api.Ins{Op: api.OShr, S: api.Imm, N: 1}, []byte{151, 1}},
		{api.Ins{Op: api.OEq, S: api.Imm, N: 128}, []byte{159, 128}},
		{api.Ins{Op: api.OLt, S: api.RegA}, []byte{160}},
		{api.Ins{Op: api.OGt, S: api.Imm, N: 9}, []byte{175, 9}},
		{api.Ins{Op: api.OLoad, D: api.RegD, N: 255}, []byte{179, 255}},
		{api.Ins{Op: api.OStore, N: 1}, []byte{184, 1}},
		{api.Ins{Op: api.OHash}, []byte{192}},
		{api.Ins{Op: api.OHashD}, []byte{200}},
		{api.Ins{Op: api.OOut}, []byte{208}},
		{api.Ins{Op: api.OJt, N: 1000 + 2 + 127}, []byte{216, 127}},
		{api.Ins{Op: api.OJf, N: 1000 + 2 - 128}, []byte{224, 128}},
		{api.Ins{Op: api.OJmp, N: 1000}, []byte{232, 254}},
		{api.Ins{Op: api.OLj, N: 300}, []byte{240, 1, 44}},
	} {
		if int(x.i.Op) != op {
			t.Fatalf("Op %d stands at %d", x.i.Op, op)
		}
		if b := put(t, x.i, 1000); !bytes.Equal(b, x.b) {
			t.Errorf("Put of %+v: %v", x.i, b)
		}
		gets(t, standing(x.b, 1000), 1000, x.i, 1000+len(x.b))
		if e, n := Right(x.i), Length(x.i); e != api.OK || n != len(x.b) {
			t.Errorf("%+v: Right %d, Length %d", x.i, e, n)
		}
	}
}

// P15.1, R1: each Op that a byte can be, with each D, S and N near and far.
func TestRight(t *testing.T) {
	numbers := append(slices.Clone(edges), far...)
	for op := range 256 {
		for _, d := range numbers {
			for _, s := range numbers {
				for _, n := range numbers {
					i := api.Ins{Op: api.Op(op), D: d, S: s, N: n}
					e, length := api.ErrCode, 0
					if l, ok := lineOf(i); ok {
						e, length = api.OK, 1+len(l.behind(i, 0))
					}
					if x, y := Right(i), Length(i); x != e || y != length {
						t.Fatalf("%+v: Right %d, Length %d; not %d, %d", i, x, y, e, length)
					}
				}
			}
		}
	}
}

// P15.1: how many are right, of each Op, counted over the whole of the small numbers.
func TestHowManyAreRight(t *testing.T) {
	want := map[api.Op]int{api.OSet: 49, api.OSetN: 7 * 256, api.OLoad: 4 * 256, api.OStore: 256}
	for _, op := range []api.Op{api.OHalt, api.OHash, api.OHashD, api.OOut} {
		want[op] = 1
	}
	for op := api.OInc; op <= api.OSwap; op++ {
		want[op] = 7
	}
	for op := api.OAdd; op <= api.OGt; op++ {
		want[op] = 7 + 256
	}
	for op := api.OJt; op <= api.OLj; op++ {
		want[op] = 600
	}
	for op := range 256 {
		found := 0
		for d := range 12 {
			for s := range 12 {
				for n := range 600 {
					if Right(api.Ins{Op: api.Op(op), D: d, S: s, N: n}) == api.OK {
						found++
					}
				}
			}
		}
		if found != want[api.Op(op)] {
			t.Errorf("Op %d: %d are right, not %d", op, found, want[api.Op(op)])
		}
	}
}

// P15.2, P15.3: all right instructions, at places of all kinds, against the words; and back.
func TestPut(t *testing.T) {
	room := bytes.Repeat([]byte{255}, 65535+3)
	for _, at := range places {
		each(func(i api.Ins) {
			want, e := bytesOf(i, at)
			if e != api.OK {
				refusedPut(t, i, at, e)
				return
			}
			b := put(t, i, at)
			if !bytes.Equal(b, want) || Length(i) != len(b) {
				t.Fatalf("Put of %+v at %d: %v, not %v; Length %d", i, at, b, want, Length(i))
			}
			gets(t, room[:at+copy(room[at:], b)], at, i, at+len(b))
		})
		for k := range 3 {
			room[at+k] = 255
		}
	}
}

// P15.2: how far a jump goes, at both its ends, at each place.
func TestJumpsAtTheEdges(t *testing.T) {
	for at := range 65536 {
		for _, op := range []api.Op{api.OJt, api.OJf, api.OJmp} {
			for _, far := range []int{-130, -129, -128, -127, -3, -2, -1, 0, 1, 126, 127, 128, 129} {
				i := api.Ins{Op: op, N: at + 2 + far}
				want, e := bytesOf(i, at)
				if b, x := Put(i, at); x != e || !bytes.Equal(b, want) {
					t.Fatalf("Put of %+v at %d: %v, %d; not %v, %d", i, at, b, x, want, e)
				}
			}
		}
	}
}

// P15.2: of a jump that goes nowhere Put says ErrCode, though it is near enough.
func TestJumpsToNowhere(t *testing.T) {
	for _, op := range []api.Op{api.OJt, api.OJf, api.OJmp, api.OLj} {
		refusedPut(t, api.Ins{Op: op, N: -1}, 0, api.ErrCode)
		refusedPut(t, api.Ins{Op: op, N: 65536}, 65535, api.ErrCode)
	}
	refusedGet(t, []byte{232, 253}, 0, api.ErrCode)
	gets(t, []byte{232, 254}, 0, api.Ins{Op: api.OJmp}, 2)
	gets(t, standing([]byte{232, 254}, 65535), 65535, api.Ins{Op: api.OJmp, N: 65535}, 65537)
	refusedGet(t, standing([]byte{232, 255}, 65535), 65535, api.ErrCode)
	gets(t, standing([]byte{224, 127}, 65406), 65406, api.Ins{Op: api.OJf, N: 65535}, 65408)
	refusedGet(t, standing([]byte{224, 127}, 65407), 65407, api.ErrCode)
	gets(t, standing([]byte{216, 128}, 126), 126, api.Ins{Op: api.OJt}, 128)
	refusedGet(t, standing([]byte{216, 128}, 125), 125, api.ErrCode)
}

// P15.2: the errors of Put in their order.
func TestPutErrors(t *testing.T) {
	wrong := []int{-1, -2, -65536, 65536, 65537, 131072, math.MinInt, math.MinInt + 1, math.MaxInt, math.MaxInt - 1, 1 << 32}
	for _, at := range wrong {
		refusedPut(t, api.Ins{Op: 31}, at, api.ErrCode)
		refusedPut(t, api.Ins{Op: api.OHalt, N: 1}, at, api.ErrCode)
		refusedPut(t, api.Ins{Op: api.OJmp, N: 65536}, at, api.ErrCode)
		each(func(i api.Ins) {
			refusedPut(t, i, at, api.ErrArg)
		})
	}
	for _, at := range places {
		for op := 31; op < 256; op++ {
			refusedPut(t, api.Ins{Op: api.Op(op)}, at, api.ErrCode)
		}
	}
	refusedPut(t, api.Ins{Op: api.OJt, N: 130}, 0, api.ErrJump)
	refusedPut(t, api.Ins{Op: api.OJmp, N: 0}, 127, api.ErrJump)
	refusedPut(t, api.Ins{Op: api.OJmp, N: 0}, 65535, api.ErrJump)
	refusedPut(t, api.Ins{Op: api.OJmp, N: 65535}, 0, api.ErrJump)
	refusedPut(t, api.Ins{Op: api.OJmp, N: 0}, 65536, api.ErrArg)
}

// P15.2, P15.3: any two bytes, and any three that OLj begins, at places of all kinds, against all that may stand there; whole and cut off.
func TestGet(t *testing.T) {
	for _, at := range places {
		x := newDictionary(at)
		b := standing([]byte{0, 0, 0}, at)
		here := b[at:]
		ask := func(n int) {
			i, end, e := x.get(here[:n])
			if e != api.OK {
				refusedGet(t, b[:at+n], at, e)
				return
			}
			gets(t, b[:at+n], at, i, end)
			if back, e := Put(i, at); e != api.OK || !bytes.Equal(back, b[at:end]) {
				t.Fatalf("Get of %v at %d: %+v; Put of that: %v, %d", b[at:end], at, i, back, e)
			}
		}
		for n := range 1 << 16 {
			here[0], here[1], here[2] = byte(n>>8), byte(n), byte(n>>3)
			ask(1)
			ask(2)
			ask(3)
			here[0], here[1], here[2] = 240, byte(n>>8), byte(n)
			ask(3)
		}
	}
}

// P15.2: what each first byte says alone: none, short, or whole.
func TestFirstBytes(t *testing.T) {
	for n := range 256 {
		op, low := n/8, n%8
		want := api.ErrCode
		switch {
		case (op == 0 || op == 24 || op == 25 || op == 26) && low == 0, op >= 3 && op <= 7 && low < 7, op >= 8 && op <= 21 && low < 7:
			want = api.OK
		case (op == 1 || op == 2) && low < 7, op >= 8 && op <= 21 && low == 7, op == 22 && low < 4, (op == 23 || op >= 27 && op <= 30) && low == 0:
			want = api.ErrShort
		}
		i, end, e := Get([]byte{byte(n)}, 0)
		if e != want || (e == api.OK) != (end == 1) {
			t.Errorf("Get of %d alone: %+v, %d, %d; not %d", n, i, end, e, want)
		}
		// A first byte that is none is so ahead of what is missing, and of what stands there.
		if want == api.ErrCode {
			refusedGet(t, []byte{byte(n), 0, 0}, 0, api.ErrCode)
		}
	}
	refusedGet(t, []byte{240, 0}, 0, api.ErrShort)
	refusedGet(t, []byte{9, 7}, 0, api.ErrCode)
	refusedGet(t, []byte{15, 0}, 0, api.ErrCode)
	refusedGet(t, []byte{15}, 0, api.ErrCode)
}

// P15.2: places at which nothing stands.
func TestGetErrArg(t *testing.T) {
	for _, n := range []int{0, 1, 2, 3, 100, 65535, 65536, 65537, 70000} {
		b := make([]byte, n)
		for _, at := range []int{-1, -2, -3, -65536, n, n + 1, n + 65536, 65536, 65537, 1 << 32, math.MinInt, math.MinInt + 1, math.MaxInt - 2, math.MaxInt - 1, math.MaxInt} {
			if at >= n || at < 0 || at > 65535 {
				refusedGet(t, b, at, api.ErrArg)
				refusedGet(t, bytes.Repeat([]byte{255}, n), at, api.ErrArg)
			}
		}
		if n > 0 {
			last := min(n, 65536) - 1
			gets(t, b, 0, api.Ins{}, 1)
			gets(t, b, last, api.Ins{}, last+1)
		}
	}
	refusedGet(t, nil, 0, api.ErrArg)
	refusedGet(t, nil, -1, api.ErrArg)
}

// P15.2: the last place of all: what stands behind it counts, if it is there.
func TestLastPlace(t *testing.T) {
	for n := range 4 {
		b := standing([]byte{240, 1, 44, 9}[:n], 65535)
		switch n {
		case 0:
			refusedGet(t, b, 65535, api.ErrArg)
		case 1, 2:
			refusedGet(t, b, 65535, api.ErrShort)
		default:
			gets(t, b, 65535, api.Ins{Op: api.OLj, N: 300}, 65538)
		}
		refusedGet(t, b, 65536, api.ErrArg)
		refusedGet(t, b, 65537, api.ErrArg)
	}
}

// P15.3: a code that is put instruction by instruction is got so.
func TestThereAndBack(t *testing.T) {
	var all []api.Ins
	each(func(i api.Ins) {
		if i.N < 600 {
			all = append(all, i)
		}
	})
	r := rand.New(rand.NewSource(15))
	for range 200 {
		var b []byte
		var l []api.Ins
		for len(b) < 4000 {
			i := all[r.Intn(len(all))]
			if i.Op >= api.OJt && i.Op <= api.OJmp {
				i.N = max(0, len(b)+2-128+r.Intn(256))
			}
			b = append(b, put(t, i, len(b))...)
			l = append(l, i)
		}
		at := 0
		for _, want := range l {
			gets(t, b, at, want, at+Length(want))
			at += Length(want)
		}
		if at != len(b) {
			t.Fatalf("%d bytes got, of %d", at, len(b))
		}
	}
}

// P15.3, R1: any bytes, at each of their places: an error, or what is put to the same bytes.
func TestAnyBytes(t *testing.T) {
	r := rand.New(rand.NewSource(16))
	for range 50 {
		b := make([]byte, r.Intn(5000))
		r.Read(b)
		for at := -3; at < len(b)+3; at++ {
			i, end, e := Get(b, at)
			if e != api.OK {
				refusedGet(t, b, at, e)
				continue
			}
			if end != at+Length(i) || !bytes.Equal(put(t, i, at), b[at:end]) {
				t.Fatalf("Get of %v at %d: %+v, %d", b[at:min(at+3, len(b))], at, i, end)
			}
		}
	}
}

// R3: what is handed in stays, its spare room too, which is not read.
func TestHandedIn(t *testing.T) {
	r := rand.New(rand.NewSource(17))
	room := make([]byte, 300)
	for range 300 {
		r.Read(room)
		was := slices.Clone(room)
		n := r.Intn(len(room))
		for at := range n {
			i, end, e := Get(room[:n], at)
			j, last, f := Get(slices.Clip(slices.Clone(room[:n])), at)
			if i != j || end != last || e != f {
				t.Fatalf("Get of %v at %d: %+v, %d, %d; without spare room %+v, %d, %d", room[:n], at, i, end, e, j, last, f)
			}
		}
		if !bytes.Equal(room, was) {
			t.Fatalf("%v became %v", was, room)
		}
	}
}

// R3, R4: each answer of Put is memory of its own, spare room too, and the same each time.
func TestHandedOut(t *testing.T) {
	each(func(i api.Ins) {
		at := min(i.N, 65535)
		b, c := put(t, i, at), put(t, i, at)
		was := slices.Clone(b)
		for k := range c[:cap(c)] {
			c[:cap(c)][k] ^= 255
		}
		if !bytes.Equal(b, was) || !bytes.Equal(put(t, i, at), was) {
			t.Fatalf("two answers of Put of %+v share memory", i)
		}
	})
}

func BenchmarkGet(b *testing.B) {
	code := []byte{9, 0, 71, 5, 24, 240, 0, 9, 216, 251, 0}
	b.ReportAllocs()
	for b.Loop() {
		for at := 0; at < len(code); {
			_, at, _ = Get(code, at)
		}
	}
}
