package valid

import (
	"bytes"
	"math/rand"
	"slices"
	"testing"

	"quillpress/api"
	"quillpress/code"
)

// checks asks that Check says this, without post and with it.
func checks(t *testing.T, b []byte, plain, post api.Errno) {
	t.Helper()
	if e := Check(b, false); e != plain {
		t.Fatalf("Check of %s: %d, not %d", shown(b), e, plain)
	}
	if e := Check(b, true); e != post {
		t.Fatalf("Check of %s with post: %d, not %d", shown(b), e, post)
	}
}

// both asks that Check says this, whether with post or not.
func both(t *testing.T, b []byte, want api.Errno) {
	t.Helper()
	checks(t, b, want, want)
}

// starts asks that Starts tells these.
func starts(t *testing.T, b []byte, want ...int) {
	t.Helper()
	if l, e := Starts(b); e != api.OK || !slices.Equal(l, want) {
		t.Fatalf("Starts of %s: %v, %d; not %v", shown(b), l, e, want)
	}
}

// refused asks that Starts refuses so, with nothing beside, and Check too.
func refused(t *testing.T, b []byte, want api.Errno) {
	t.Helper()
	if l, e := Starts(b); e != want || len(l) != 0 {
		t.Fatalf("Starts of %s: %v, %d; not %d", shown(b), l, e, want)
	}
	both(t, b, want)
}

// asTold holds all that is said of b against the words.
func asTold(t *testing.T, b []byte) {
	t.Helper()
	want, e := startsOf(b)
	if l, x := Starts(b); x != e || !slices.Equal(l, want) {
		t.Fatalf("Starts of %s: %v, %d; not %v, %d", shown(b), l, x, want, e)
	}
	checks(t, b, checkOf(b, false), checkOf(b, true))
}

// shown is as much of b as can be read.
func shown(b []byte) string {
	const digits = "0123456789"
	var s []byte
	for _, x := range b[:min(len(b), 60)] {
		s = append(s, digits[x/100], digits[x/10%10], digits[x%10], ' ')
	}
	if len(b) > 60 {
		s = append(s, ".."...)
	}
	return string(s)
}

// put is the bytes of an instruction that may stand there.
func put(t *testing.T, i api.Ins, at int) []byte {
	t.Helper()
	b, e := code.Put(i, at)
	if e != api.OK {
		t.Fatalf("Put of %+v at %d: %d", i, at, e)
	}
	return b
}

// join is all of these, one behind the other.
func join(l ...[]byte) []byte { return slices.Concat(l...) }

// P16.1: the chapter's examples.
func TestExamples(t *testing.T) {
	both(t, []byte{0}, api.OK)
	both(t, []byte{24}, api.ErrCode)
	both(t, []byte{232, 254}, api.OK)
	both(t, []byte{232, 255}, api.ErrCode)
	checks(t, []byte{208, 0}, api.ErrCode, api.OK)
	refused(t, nil, api.ErrCode)
	refused(t, []byte{}, api.ErrCode)
	starts(t, []byte{0}, 0)
	// What falls out, jumps into itself or puts out has its starts all the same.
	starts(t, []byte{24}, 0)
	starts(t, []byte{232, 255}, 0)
	starts(t, []byte{208, 0}, 0, 1)
}

// ofEach is one instruction of each Op, as bytes; the jumps go to 0 if they stand at 0.
var ofEach = [][]byte{
	{0}, {14, 5}, {20, 200}, {27}, {38}, {41}, {48}, {61}, {66}, {79, 255}, {87, 0}, {94}, {96}, {105}, {116}, {125},
	{131}, {143, 31}, {151, 1}, {159, 128}, {160}, {175, 9}, {179, 255}, {184, 1}, {192}, {200}, {208},
	{216, 254}, {224, 254}, {232, 254}, {240, 0, 0},
}

// P16.1: each Op alone, ahead of OHalt, and behind it: what may be last, what puts out.
func TestEachOp(t *testing.T) {
	if len(ofEach) != 31 {
		t.Fatal(len(ofEach))
	}
	for op, b := range ofEach {
		alone, ahead := api.ErrCode, api.OK
		switch api.Op(op) {
		case api.OHalt, api.OJmp, api.OLj:
			alone = api.OK
		}
		starts(t, b, 0)
		both(t, b, alone)
		starts(t, join(b, []byte{0}), 0, len(b))
		starts(t, join([]byte{0}, b), 0, 1)
		if api.Op(op) == api.OOut {
			ahead = api.ErrCode
		}
		checks(t, join(b, []byte{0}), ahead, api.OK)
	}
	// All of them, one behind the other.
	all, want := []byte{}, []int{}
	for _, b := range ofEach {
		want = append(want, len(all))
		all = append(all, b...)
	}
	starts(t, all, want...)
	checks(t, all, api.ErrCode, api.OK)
	asTold(t, all)
}

// P16.1: each first byte, alone, with bytes behind it, and behind another start.
func TestFirstBytes(t *testing.T) {
	for n := range 256 {
		for _, behind := range [][]byte{nil, {0}, {0, 0}, {0, 0, 0}, {6, 0}, {7, 0}, {255, 255}, {254, 0}, {253, 0}} {
			b := join([]byte{byte(n)}, behind)
			asTold(t, b)
			asTold(t, join([]byte{71, 0, 24}, b))
			if lengthOf(byte(n)) == 0 {
				refused(t, b, api.ErrCode)
				refused(t, join([]byte{71, 0, 0}, b), api.ErrCode)
			}
		}
	}
}

// P16.1: all codes of one and two bytes, and those of three whose last is of all kinds.
func TestShortCodes(t *testing.T) {
	kinds := []byte{0, 1, 2, 3, 5, 6, 7, 9, 24, 71, 128, 208, 216, 232, 240, 248, 251, 252, 253, 254, 255}
	for x := range 256 {
		asTold(t, []byte{byte(x)})
		for y := range 256 {
			asTold(t, []byte{byte(x), byte(y)})
			for _, z := range kinds {
				asTold(t, []byte{byte(x), byte(y), z})
			}
		}
	}
}

// P16.1: how long a code may be; ErrLong comes first, whatever stands there.
func TestLengths(t *testing.T) {
	for _, n := range []int{1, 2, 100, 4094, 4095, 4096} {
		b := make([]byte, n)
		both(t, b, api.OK)
		asTold(t, b)
		if l, e := Starts(b); e != api.OK || len(l) != n || l[n-1] != n-1 {
			t.Fatalf("%d starts of %d bytes, %d", len(l), n, e)
		}
		refused(t, bytes.Repeat([]byte{255}, n), api.ErrCode)
		b[n-1] = 248
		refused(t, b, api.ErrCode)
		b[n-1] = 9
		refused(t, b, api.ErrCode)
		b[n-1] = 208
		starts(t, b, all(n)...)
		both(t, b, api.ErrCode)
	}
	for _, n := range []int{4097, 4098, 8192, 65535, 65536, 65537, 1 << 20} {
		refused(t, make([]byte, n), api.ErrLong)
		refused(t, bytes.Repeat([]byte{255}, n), api.ErrLong)
		refused(t, bytes.Repeat([]byte{9}, n), api.ErrLong)
		refused(t, bytes.Repeat([]byte{208}, n), api.ErrLong)
	}
	// The last instruction may have more than one byte, as long as all of them are within.
	for _, last := range [][]byte{{232, 254}, {240, 0, 0}} {
		b := join(bytes.Repeat([]byte{24}, 4096-len(last)), last)
		both(t, b, api.OK)
		refused(t, b[:4095], api.ErrCode)
		refused(t, append([]byte{24}, b...), api.ErrLong)
		// One byte less of the last one's: it reaches past the longest code.
		refused(t, join([]byte{24}, b[:4095]), api.ErrCode)
	}
}

// all is the numbers from 0 to below n.
func all(n int) []int {
	l := make([]int, n)
	for i := range l {
		l[i] = i
	}
	return l
}

// filler has starts at 0, 2, 3, 6, 7, 9, 11, 12: instructions of one to three bytes, whose later bytes would be instructions too.
var filler = []byte{71, 0, 24, 240, 0, 0, 24, 20, 24, 9, 0, 0, 24}

// P16.1: each kind of jump, at three places of a code, to each place about: to starts, into instructions, to the end, past it.
func TestJumps(t *testing.T) {
	for _, ahead := range []int{0, 1, 2} {
		for _, op := range []api.Op{api.OJt, api.OJf, api.OJmp, api.OLj} {
			for to := range 60 {
				jump := api.Ins{Op: op, N: to}
				var b []byte
				for range ahead {
					b = append(b, filler...)
				}
				at := len(b)
				b = join(b, put(t, jump, at), filler, []byte{0})
				l, e := startsOf(b)
				if e != api.OK {
					t.Fatalf("%s: %d", shown(b), e)
				}
				want := api.ErrCode
				if slices.Contains(l, to) {
					want = api.OK
				}
				starts(t, b, l...)
				both(t, b, want)
				asTold(t, b)
			}
		}
	}
}

// P16.1: far jumps: to the last place of the longest code, past its end, and as far as two bytes tell.
func TestFarJumps(t *testing.T) {
	b := make([]byte, 4096)
	for _, x := range []struct {
		to   int
		want api.Errno
	}{
		{0, api.OK}, {1, api.ErrCode}, {2, api.ErrCode}, {3, api.OK}, {2048, api.OK}, {4094, api.OK}, {4095, api.OK},
		{4096, api.ErrCode}, {4097, api.ErrCode}, {8192, api.ErrCode}, {32768, api.ErrCode}, {65534, api.ErrCode}, {65535, api.ErrCode},
	} {
		copy(b, put(t, api.Ins{Op: api.OLj, N: x.to}, 0))
		both(t, b, x.want)
	}
	// Short jumps about the end of the longest code, which may end ahead of where they go.
	for _, op := range []api.Op{api.OJt, api.OJf, api.OJmp} {
		for _, at := range []int{3970, 4093} {
			for to := at - 126; to < at+2+128; to++ {
				b := bytes.Repeat([]byte{24}, 4096)
				b[4095] = 0
				copy(b[at:], put(t, api.Ins{Op: op, N: to}, at))
				want := api.OK
				if to > 4095 || to == at+1 {
					want = api.ErrCode
				}
				both(t, b, want)
			}
		}
	}
	// To below 0 there is no jump at all.
	refused(t, []byte{232, 253, 0}, api.ErrCode)
	refused(t, []byte{24, 216, 252, 0}, api.ErrCode)
}

// P16.1: of many jumps each one counts, be it the first, the last or one between.
func TestEachJumpCounts(t *testing.T) {
	var b []byte
	for range 200 {
		b = append(b, put(t, api.Ins{Op: api.OJt, N: len(b)}, len(b))...)
		b = append(b, put(t, api.Ins{Op: api.OLj, N: len(b) - 2}, len(b))...)
	}
	both(t, b, api.OK)
	for at := 0; at < len(b); at += 5 {
		// Each of both now goes to the place behind the one to which it went, which is within an instruction.
		near, far := slices.Clone(b), slices.Clone(b)
		near[at+1] = 255
		copy(far[at+2:], put(t, api.Ins{Op: api.OLj, N: at + 1}, at+2))
		both(t, near, api.ErrCode)
		both(t, far, api.ErrCode)
		asTold(t, near)
		asTold(t, far)
	}
}

// P16.1: OOut counts wherever it stands, be it run or not; as a number behind a first byte it is none.
func TestOut(t *testing.T) {
	checks(t, []byte{0, 208, 0}, api.ErrCode, api.OK)
	checks(t, []byte{232, 1, 208, 0}, api.ErrCode, api.OK)
	checks(t, []byte{208, 208, 232, 252}, api.ErrCode, api.OK)
	both(t, []byte{0, 208}, api.ErrCode)
	both(t, []byte{208}, api.ErrCode)
	both(t, []byte{71, 208, 0}, api.OK)
	both(t, []byte{16, 208, 184, 208, 0}, api.OK)
	b := make([]byte, 4096)
	for at := 0; at < len(b)-1; at += 13 {
		b[at] = 208
		checks(t, b, api.ErrCode, api.OK)
		b[at] = 0
	}
}

// P16.1: what is never run must be right, too.
func TestNeverRun(t *testing.T) {
	for _, ahead := range [][]byte{{24, 24, 0}, {24, 232, 253}, {240, 0, 0}} {
		for _, behind := range [][]byte{{255}, {248}, {1}, {9}, {15, 0}, {9, 7, 0}, {240, 0}, {232, 250, 0}} {
			refused(t, join(ahead, behind), api.ErrCode)
		}
		for _, behind := range [][]byte{{24}, {9, 0}, {216, 251}, {232, 0}, {232, 255}, {240, 0, 4}, {240, 0, 6, 24}} {
			both(t, join(ahead, behind), api.ErrCode)
		}
		for _, behind := range [][]byte{{0}, {24, 0}, {232, 254}, {232, 251}, {240, 0, 0}, {240, 0, 3}, {216, 0, 0}} {
			both(t, join(ahead, behind), api.OK)
		}
	}
}

// some is a chance program of at most so many bytes, its instructions right and its jumps to any places about.
func some(r *rand.Rand, most int) []byte {
	var b []byte
	for len(b)+3 < most {
		switch r.Intn(6) {
		case 0:
			// To below 0 there is no jump: there would be no starts.
			far := max(r.Intn(24)-12, -len(b)-2)
			b = append(b, byte(27+r.Intn(3))<<3, byte(far))
		case 1:
			to := r.Intn(most)
			b = append(b, 240, byte(to>>8), byte(to))
		default:
			b = append(b, ofEach[r.Intn(27-r.Intn(2))]...)
		}
	}
	return append(b, 0)
}

// mended is b with each jump that goes to no start turned to one that does.
func mended(r *rand.Rand, b []byte) []byte {
	l, e := startsOf(b)
	if e != api.OK {
		return b
	}
	for _, at := range l {
		to, ok := targetOf(b, at)
		if !ok || slices.Contains(l, to) {
			continue
		}
		if b[at] == 240 {
			to = l[r.Intn(len(l))]
			b[at+1], b[at+2] = byte(to>>8), byte(to)
		} else {
			b[at+1] = 254
		}
	}
	return b
}

// P16.1, P16.2, R1: chance programs, right ones and nearly right ones, against the words.
func TestChancePrograms(t *testing.T) {
	r := rand.New(rand.NewSource(16))
	plain, post, wrong := 0, 0, 0
	for range 4000 {
		b := mended(r, some(r, 4+r.Intn(60)))
		for range 3 {
			asTold(t, b)
			follows(t, b)
			switch {
			case Check(b, false) == api.OK:
				plain++
			case Check(b, true) == api.OK:
				post++
			default:
				wrong++
			}
			b[r.Intn(len(b))] = byte(r.Intn(256))
		}
	}
	if plain < 500 || post < 500 || wrong < 500 {
		t.Fatalf("%d right ones, %d with post, %d others", plain, post, wrong)
	}
	for range 40 {
		b := mended(r, some(r, 3000+r.Intn(1097)))
		asTold(t, b)
		follows(t, b)
	}
}

// follows asks P16.2 of b, if it is right.
func follows(t *testing.T, b []byte) {
	t.Helper()
	if Check(b, false) == api.OK && Check(b, true) != api.OK {
		t.Fatalf("%s is right, but with post", shown(b))
	}
	if Check(b, true) != api.OK {
		return
	}
	l, e := Starts(b)
	if e != api.OK || l[0] != 0 {
		t.Fatalf("Starts of %s: %v, %d", shown(b), l, e)
	}
	var is [4097]bool
	for _, at := range l {
		is[at] = true
	}
	for _, at := range l {
		i, behind, e := code.Get(b, at)
		if e != api.OK {
			t.Fatalf("%s has nothing at its start %d: %d", shown(b), at, e)
		}
		jump := i.Op >= api.OJt && i.Op <= api.OLj
		if jump && (i.N >= len(b) || !is[i.N]) {
			t.Fatalf("%s jumps at %d to %d", shown(b), at, i.N)
		}
		if i.Op != api.OHalt && i.Op != api.OJmp && i.Op != api.OLj && !is[behind] {
			t.Fatalf("%s has no start behind %d", shown(b), at)
		}
		if behind < len(b) && !is[behind] {
			t.Fatalf("%s has no start at %d", shown(b), behind)
		}
	}
}

// R1: any bytes, short and long.
func TestAnyBytes(t *testing.T) {
	r := rand.New(rand.NewSource(17))
	for range 20000 {
		b := make([]byte, r.Intn(12))
		r.Read(b)
		asTold(t, b)
		follows(t, b)
	}
	for range 50 {
		b := make([]byte, r.Intn(9000))
		r.Read(b)
		asTold(t, b)
	}
}

// R3: what is handed in stays, its spare room too, which is not read: no instruction is ended by what stands there.
func TestHandedIn(t *testing.T) {
	r := rand.New(rand.NewSource(18))
	for range 2000 {
		room := mended(r, some(r, 4+r.Intn(40)))
		was := slices.Clone(room)
		for n := range len(room) + 1 {
			asTold(t, room[:n])
			asTold(t, slices.Clip(slices.Clone(room[:n])))
		}
		if !bytes.Equal(room, was) {
			t.Fatalf("%s became %s", shown(was), shown(room))
		}
	}
}

// R3, R4: each answer of Starts is memory of its own, spare room too, and the same each time.
func TestHandedOut(t *testing.T) {
	r := rand.New(rand.NewSource(19))
	for range 500 {
		b := mended(r, some(r, 4+r.Intn(300)))
		l, _ := Starts(b)
		other, _ := Starts(b)
		want, _ := startsOf(b)
		for k := range other[:cap(other)] {
			other[:cap(other)][k] = -1
		}
		if !slices.Equal(l, want) {
			t.Fatalf("two answers of Starts of %s share memory", shown(b))
		}
		starts(t, b, want...)
		plain, post := checkOf(b, false), checkOf(b, true)
		for range 5 {
			checks(t, b, plain, post)
		}
	}
}

// R3: Check keeps nothing of what it was asked before: a code that was changed is another one.
func TestAskedAgain(t *testing.T) {
	b := []byte{24, 24, 232, 253}
	both(t, b, api.OK)
	b[0] = 71
	both(t, b, api.ErrCode)
	starts(t, b, 0, 2)
	b[0], b[1] = 24, 208
	checks(t, b, api.ErrCode, api.OK)
	b[1] = 255
	refused(t, b, api.ErrCode)
	b[1] = 24
	both(t, b, api.OK)
}

func BenchmarkCheck(b *testing.B) {
	program := []byte{9, 0, 71, 5, 24, 240, 0, 9, 27, 216, 251, 48, 200, 9, 0, 71, 5, 24, 0}
	b.ReportAllocs()
	for b.Loop() {
		Check(program, false)
	}
}
