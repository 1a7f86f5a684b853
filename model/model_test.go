package model

import (
	"math"
	"math/rand"
	"slices"
	"testing"

	"quillpress/api"
)

// five is the example's part.
func five() api.Part {
	return api.Part{Kind: api.PConst, C: 5}
}

// small is the example's model.
func small() api.Model {
	return api.Model{Parts: []api.Part{five()}, Code: []byte{0}}
}

// smallBytes are the example's bytes.
func smallBytes() []byte {
	return []byte{0, 0, 0, 0, 1, 1, 8, 5, 0, 1, 0, 0, 0}
}

// full has each kind of part, numbers that two bytes hold apart, and a post program.
func full() api.Model {
	return api.Model{H: 8, M: 12, PH: 7, PM: 11, Parts: []api.Part{
		{Kind: api.PConst, C: -2047},
		{Kind: api.PCm, Size: 16, Limit: 1023},
		{Kind: api.PIcm, Size: 15},
		{Kind: api.PMatch, Size: 14},
		{Kind: api.PAvg, A: 3, B: 2, C: 256},
		{Kind: api.PMix2, Size: 13, A: 1, B: 4, Rate: 64},
		{Kind: api.PMix, Size: 12, A: 2, B: 3, Rate: 5},
		{Kind: api.PIsse, Size: 11, A: 6},
		{Kind: api.PSse, Size: 10, A: 7, Limit: 258},
		{Kind: api.PConst, C: 2047},
	}, Code: []byte{9, 8, 7}, Post: []byte{6, 5}}
}

// fullBytes are full's, written out by hand.
func fullBytes() []byte {
	return []byte{
		8, 12, 7, 11, 10,
		1, 0, 1,
		2, 16, 3, 255,
		3, 15,
		4, 14,
		5, 3, 2, 9, 0,
		6, 13, 1, 4, 64,
		7, 12, 2, 3, 5,
		8, 11, 6,
		9, 10, 7, 1, 2,
		1, 15, 255,
		0, 3, 9, 8, 7,
		0, 2, 6, 5,
	}
}

// same tells whether two models are; an empty list is as good as none.
func same(x, y api.Model) bool {
	return x.H == y.H && x.M == y.M && x.PH == y.PH && x.PM == y.PM && slices.Equal(x.Parts, y.Parts) && slices.Equal(x.Code, y.Code) && slices.Equal(x.Post, y.Post)
}

// zero tells whether nothing at all is told beside an error.
func zero(m api.Model, n int) bool {
	return n == 0 && m.H == 0 && m.M == 0 && m.PH == 0 && m.PM == 0 && len(m.Parts) == 0 && len(m.Code) == 0 && len(m.Post) == 0
}

// refused asks that Get refuses b so, and tells nothing beside.
func refused(t *testing.T, b []byte, want api.Errno) {
	t.Helper()
	if m, n, e := Get(b); e != want || !zero(m, n) {
		t.Errorf("Get of %d bytes %v: %d, %d with %+v, not %d", len(b), b[:min(len(b), 40)], e, n, m, want)
	}
}

// both asks that Right and Put answer this error (Put with no bytes beside).
func both(t *testing.T, what string, m api.Model, want api.Errno) {
	t.Helper()
	if e := Right(m); e != want {
		t.Errorf("Right of %s: %d, not %d", what, e, want)
	}
	b, e := Put(m)
	if e != want || (len(b) == 0) != (want != api.OK) {
		t.Errorf("Put of %s: %d with %d bytes, not %d", what, e, len(b), want)
	}
}

// constants are so many parts of the least kind.
func constants(n int) []api.Part {
	return slices.Repeat([]api.Part{five()}, n)
}

// P13.1, P13.2: the chapter's examples.
func TestExamples(t *testing.T) {
	b, e := Put(small())
	if e != api.OK || !slices.Equal(b, smallBytes()) {
		t.Errorf("Put: %v, %d", b, e)
	}
	m, n, e := Get(smallBytes())
	if e != api.OK || n != 13 || !same(m, small()) {
		t.Errorf("Get: %+v, %d, %d", m, n, e)
	}
	refused(t, smallBytes()[:12], api.ErrShort)
	b = smallBytes()
	b[5] = 12
	refused(t, b, api.ErrModel)
	two := small()
	two.Parts = constants(2)
	both(t, "two parts with H 0", two, api.ErrModel)
	refused(t, []byte{0, 0, 0, 0, 2, 1, 8, 5, 1, 8, 5, 0, 1, 0, 0, 0}, api.ErrModel)
}

// P13.1, P13.2: each kind's fields, in their order.
func TestEachKindsBytes(t *testing.T) {
	b, e := Put(full())
	if e != api.OK || !slices.Equal(b, fullBytes()) {
		t.Errorf("Put: %v, %d", b, e)
	}
	m, n, e := Get(fullBytes())
	if e != api.OK || n != len(fullBytes()) || !same(m, full()) {
		t.Errorf("Get: %+v, %d, %d", m, n, e)
	}
}

// edge is a change of the model that full makes, and what is to be said of it.
type edge struct {
	what string
	with func(m *api.Model)
	e    api.Errno
}

// edges are changes on both sides of each edge of P13.1.
func edges() []edge {
	l := []edge{
		{"Code of 4096 bytes", func(m *api.Model) { m.Code = make([]byte, 4096) }, api.OK},
		{"Code of 4097 bytes", func(m *api.Model) { m.Code = make([]byte, 4097) }, api.ErrModel},
		{"Code of 65536 bytes", func(m *api.Model) { m.Code = make([]byte, 65536) }, api.ErrModel},
		{"no Code", func(m *api.Model) { m.Code = nil }, api.OK},
		{"Post of 4096 bytes", func(m *api.Model) { m.Post = make([]byte, 4096) }, api.OK},
		{"Post of 4097 bytes", func(m *api.Model) { m.Post = make([]byte, 4097) }, api.ErrModel},
		{"Post of 65536 bytes", func(m *api.Model) { m.Post = make([]byte, 65536) }, api.ErrModel},
		{"no Post, and PH", func(m *api.Model) { m.Post, m.PH, m.PM = nil, 1, 0 }, api.ErrModel},
		{"no Post, and PM", func(m *api.Model) { m.Post, m.PH, m.PM = nil, 0, 1 }, api.ErrModel},
		{"empty Post, and PH and PM", func(m *api.Model) { m.Post = []byte{} }, api.ErrModel},
		{"no Post", func(m *api.Model) { m.Post, m.PH, m.PM = nil, 0, 0 }, api.OK},
		{"Post, PH and PM 0", func(m *api.Model) { m.PH, m.PM = 0, 0 }, api.OK},
	}
	for _, n := range []int{0, 1, 7, 8, 9, 11, 12, 13, -1, -8, 64, 255, 256, 264, 1 << 32, math.MinInt, math.MaxInt} {
		h, m := api.ErrModel, api.ErrModel
		if n >= 0 && n <= 8 {
			h = api.OK
		}
		if n >= 0 && n <= 12 {
			m = api.OK
		}
		l = append(l, edge{"PH", func(m *api.Model) { m.PH = n }, h}, edge{"PM", func(m *api.Model) { m.PM = n }, m})
		l = append(l, edge{"M", func(m *api.Model) { m.M = n }, m}, edge{"H and one part", func(m *api.Model) { m.H, m.Parts = n, constants(1) }, h})
	}
	return l
}

// P13.1: H, M, PH, PM and the lengths, on both sides of their edges.
func TestRightAtTheEdges(t *testing.T) {
	for _, x := range edges() {
		m := full()
		x.with(&m)
		both(t, x.what, m, x.e)
		// What is told here comes ahead of what is wrong with a part.
		m.Parts[0].C = 5000
		if x.e == api.OK {
			x.e = api.ErrPart
		}
		both(t, x.what+", no part ahead", m, x.e)
	}
}

// P13.1: at most 2^H parts, ahead of what parts.Right says; of none it says ErrPart.
func TestHowManyParts(t *testing.T) {
	for h := range 9 {
		most := 1
		for range h {
			most *= 2
		}
		for n := range 300 {
			want := api.OK
			switch {
			case n > most:
				want = api.ErrModel
			case n < 1 || n > 16:
				want = api.ErrPart
			}
			m := api.Model{H: h, Parts: constants(n)}
			if e := Right(m); e != want {
				t.Fatalf("%d parts with H %d: %d, not %d", n, h, e, want)
			}
			if b, e := Put(m); e != want || want != api.OK && len(b) > 0 {
				t.Fatalf("Put of %d parts with H %d: %d, not %d", n, h, e, want)
			}
		}
	}
}

// P13.1: the errors of parts.Right are told as they are, behind ErrModel.
func TestPartsErrors(t *testing.T) {
	m := api.Model{H: 4, Parts: slices.Repeat([]api.Part{{Kind: api.PMatch, Size: 16}}, 8)}
	both(t, "parts that fill the memory", m, api.OK)
	m.Parts = append(m.Parts, api.Part{Kind: api.PCm, Limit: 1})
	both(t, "parts past the memory", m, api.ErrMemory)
	m.PH = 1
	both(t, "parts past the memory, PH and no Post", m, api.ErrModel)
	m.PH = 0
	m.Parts[0].A = 1
	both(t, "a field that its kind has not", m, api.ErrPart)
	m.H = 3
	both(t, "nine parts with H 3", m, api.ErrModel)
	for k := range 256 {
		if k < 1 || k > 9 {
			both(t, "a kind that is none", api.Model{Parts: []api.Part{{Kind: api.PartKind(k)}}}, api.ErrPart)
		}
	}
	both(t, "nothing", api.Model{}, api.ErrPart)
}

// P13.2: bytes that end early are short at each place.
func TestShort(t *testing.T) {
	long := full()
	long.Code, long.Post = make([]byte, 4096), make([]byte, 700)
	longBytes, e := Put(long)
	if e != api.OK {
		t.Fatal(e)
	}
	for _, b := range [][]byte{smallBytes(), fullBytes(), longBytes} {
		for n := range b {
			refused(t, b[:n], api.ErrShort)
			// Bytes behind the end are the caller's own.
			refused(t, slices.Clip(b[:n]), api.ErrShort)
		}
	}
	refused(t, nil, api.ErrShort)
}

// P13.2: what the numbers say there is must be there ahead of their being right.
func TestShortAheadOfWrong(t *testing.T) {
	for _, at := range []int{0, 1, 2, 3} {
		for n := range len(fullBytes()) {
			b := fullBytes()
			b[at] = 255
			if n > at {
				refused(t, b[:n], api.ErrShort)
			}
		}
	}
	many := append([]byte{255, 255, 255, 255, 255}, slices.Repeat([]byte{3, 255}, 255)...)
	for n := range many {
		refused(t, many[:n], api.ErrShort)
	}
	refused(t, append(many, 255, 255), api.ErrShort)
	refused(t, append(append(many, 255, 255), make([]byte, 65534)...), api.ErrShort)
	refused(t, append(append(many, 255, 255), make([]byte, 65536)...), api.ErrShort)
	whole := append(append(many, 255, 255), make([]byte, 65535)...)
	whole = append(append(whole, 255, 255), make([]byte, 65535)...)
	refused(t, whole[:len(whole)-1], api.ErrShort)
	refused(t, whole, api.ErrModel)
	refused(t, []byte{0, 0, 0, 0, 0}, api.ErrShort)
	refused(t, []byte{0, 0, 0, 0, 0, 0, 0, 0}, api.ErrShort)
	refused(t, []byte{0, 0, 0, 0, 0, 0, 0, 0, 0}, api.ErrModel)
}

// P13.2: a kind that is none is refused where it is read, whatever is behind it.
func TestKindAtOnce(t *testing.T) {
	for k := range 256 {
		want := api.ErrModel
		if k >= 1 && k <= 9 {
			want = api.ErrShort
		}
		refused(t, []byte{0, 0, 0, 0, 1, byte(k)}, want)
		refused(t, []byte{200, 200, 200, 200, 200, byte(k)}, want)
		refused(t, []byte{8, 0, 0, 0, 2, 1, 8, 5, byte(k)}, want)
		// The first part is wrong in itself: that is asked last.
		refused(t, []byte{8, 0, 0, 0, 2, 7, 255, 255, 255, 255, byte(k)}, want)
	}
	refused(t, []byte{0, 0, 0, 0, 1}, api.ErrShort)
	refused(t, []byte{0, 0, 0, 0, 0, 12}, api.ErrShort)
	refused(t, []byte{8, 0, 0, 0, 2, 1, 8, 5}, api.ErrShort)
	// Bytes that end ahead of the kind are short, though a 0 is no kind.
	refused(t, []byte{8, 0, 0, 0, 3, 12, 1, 8}, api.ErrModel)
}

// P13.2: whatever is not right in what was read wholly is ErrModel, too much memory too.
func TestReadButNotRight(t *testing.T) {
	for at, most := range []int{8, 12, 8, 12} {
		for n := range 256 {
			b := fullBytes()
			b[at] = byte(n)
			want := api.OK
			// Ten parts ask for an H of 4.
			if n > most || at == 0 && n < 4 {
				want = api.ErrModel
			}
			if _, _, e := Get(b); e != want {
				t.Errorf("Get with %d at %d: %d, not %d", n, at, e, want)
			}
		}
	}
	memory := append([]byte{8, 0, 0, 0, 9}, slices.Repeat([]byte{4, 16}, 9)...)
	refused(t, append(memory, 0, 0, 0, 0), api.ErrModel)
	memory[4] = 8
	memory = append(memory[:5+16], 0, 0, 0, 0)
	if _, n, e := Get(memory); e != api.OK || n != len(memory) {
		t.Errorf("Get of parts that fill the memory: %d, %d", n, e)
	}
	refused(t, []byte{0, 0, 1, 0, 1, 1, 8, 5, 0, 0, 0, 0}, api.ErrModel)
	refused(t, []byte{0, 0, 0, 1, 1, 1, 8, 5, 0, 0, 0, 0}, api.ErrModel)
	refused(t, []byte{0, 0, 0, 0, 1, 5, 0, 0, 8, 0, 0, 0, 0, 0}, api.ErrModel)
	for c := range 65536 {
		m, n, e := Get([]byte{0, 0, 0, 0, 1, 1, byte(c >> 8), byte(c), 0, 0, 0, 0})
		if c >= 1 && c <= 4095 {
			if e != api.OK || n != 12 || m.Parts[0] != (api.Part{Kind: api.PConst, C: c - 2048}) {
				t.Fatalf("Get with C as %d: %+v, %d, %d", c, m, n, e)
			}
		} else if e != api.ErrModel || !zero(m, n) {
			t.Fatalf("Get with C as %d: %d", c, e)
		}
	}
	for limit := range 65536 {
		m, n, e := Get([]byte{0, 0, 0, 0, 1, 2, 3, byte(limit >> 8), byte(limit), 0, 0, 0, 0})
		if limit >= 1 && limit <= 1023 {
			if e != api.OK || n != 13 || m.Parts[0] != (api.Part{Kind: api.PCm, Size: 3, Limit: limit}) {
				t.Fatalf("Get with Limit %d: %+v, %d, %d", limit, m, n, e)
			}
		} else if e != api.ErrModel || !zero(m, n) {
			t.Fatalf("Get with Limit %d: %d", limit, e)
		}
	}
}

// P13.2: lengths of programs, on both sides of the limit.
func TestLengthsOfPrograms(t *testing.T) {
	ahead := []byte{0, 0, 0, 0, 1, 1, 8, 5}
	for _, n := range []int{0, 1, 255, 256, 257, 4095, 4096, 4097, 65535} {
		want := api.OK
		if n > 4096 {
			want = api.ErrModel
		}
		program := make([]byte, n)
		for i := range program {
			program[i] = byte(i * 7)
		}
		length := []byte{byte(n >> 8), byte(n)}
		code := slices.Concat(ahead, length, program, []byte{0, 0})
		post := slices.Concat(ahead, []byte{0, 0}, length, program)
		for i, b := range [][]byte{code, post} {
			m, k, e := Get(b)
			if e != want || want != api.OK && !zero(m, k) {
				t.Errorf("Get of programs of %d: %d, not %d", n, e, want)
			}
			if e == api.OK && (k != len(b) || !slices.Equal([][]byte{m.Code, m.Post}[i], program) || len([][]byte{m.Post, m.Code}[i]) > 0) {
				t.Errorf("Get of programs of %d: %d with %v and %v", n, k, m.Code, m.Post)
			}
		}
	}
}

// shape says for each kind which fields stand in its bytes: C and L (Limit) take two.
func shape(k byte) string {
	return []string{"", "C", "sL", "s", "s", "abC", "sabr", "sabr", "sa", "saL"}[k]
}

// second reads b once more, apart from Get: how the bytes end up, and the model if they do well (right or not).
func second(b []byte) (api.Model, int, api.Errno) {
	var m api.Model
	if len(b) < 5 {
		return m, 0, api.ErrShort
	}
	m.H, m.M, m.PH, m.PM = int(b[0]), int(b[1]), int(b[2]), int(b[3])
	left := b[5:]
	for range b[4] {
		if len(left) == 0 {
			return m, 0, api.ErrShort
		}
		k := left[0]
		if k == 0 || k > 9 {
			return m, 0, api.ErrModel
		}
		left = left[1:]
		p := api.Part{Kind: api.PartKind(k)}
		for _, f := range shape(k) {
			if len(left) == 0 || f < 'a' && len(left) == 1 {
				return m, 0, api.ErrShort
			}
			one := int(left[0])
			switch f {
			case 's':
				p.Size = one
			case 'a':
				p.A = one
			case 'b':
				p.B = one
			case 'r':
				p.Rate = one
			case 'C':
				p.C = one*256 + int(left[1]) - 2048
			case 'L':
				p.Limit = one*256 + int(left[1])
			}
			if f < 'a' {
				left = left[1:]
			}
			left = left[1:]
		}
		m.Parts = append(m.Parts, p)
	}
	for _, l := range []*[]byte{&m.Code, &m.Post} {
		if len(left) < 2 || len(left)-2 < int(left[0])*256+int(left[1]) {
			return m, 0, api.ErrShort
		}
		n := int(left[0])*256 + int(left[1])
		*l, left = left[2:2+n], left[2+n:]
	}
	return m, len(b) - len(left), api.OK
}

// compare holds what Get says of b against the second reading; it tells whether b begins with a right model.
func compare(t *testing.T, b []byte) bool {
	t.Helper()
	want, size, err := second(b)
	if err == api.OK && Right(want) != api.OK {
		err = api.ErrModel
	}
	m, n, e := Get(b)
	if e != err {
		t.Fatalf("Get of %v: %d, not %d", b, e, err)
	}
	if e != api.OK {
		if !zero(m, n) {
			t.Fatalf("Get of %v tells %+v, %d beside %d", b, m, n, e)
		}
		return false
	}
	if n != size || !same(m, want) {
		t.Fatalf("Get of %v: %+v, %d, not %+v, %d", b, m, n, want, size)
	}
	// P13.3: Put of what Get tells is the beginning that it took.
	if again, e := Put(m); e != api.OK || !slices.Equal(again, b[:n]) {
		t.Fatalf("Put of what Get tells of %v: %v, %d", b, again, e)
	}
	return true
}

// anyPart is a part that is right at its place, more often than not.
func anyPart(r *rand.Rand, place int) api.Part {
	p := api.Part{Kind: api.PartKind(1 + r.Intn(9))}
	if place == 0 {
		p.Kind = api.PartKind(1 + r.Intn(4))
	}
	for _, f := range shape(byte(p.Kind)) {
		switch f {
		case 's':
			p.Size = 4 + r.Intn(7)
		case 'a':
			p.A = r.Intn(place)
		case 'b':
			p.B = r.Intn(place)
		case 'r':
			p.Rate = 1 + r.Intn(64)
		case 'C':
			p.C = r.Intn(257)
			if p.Kind == api.PConst {
				p.C = r.Intn(4095) - 2047
			}
		case 'L':
			p.Limit = 1 + r.Intn(1023)
		}
	}
	if p.Kind == api.PMix {
		p.B = 1 + r.Intn(min(8, place))
		p.A = r.Intn(place - p.B + 1)
	}
	return p
}

// anyModel is a right model.
func anyModel(r *rand.Rand) api.Model {
	m := api.Model{H: 4 + r.Intn(5), M: r.Intn(13), Code: make([]byte, r.Intn(40))}
	for i := range 1 + r.Intn(16) {
		m.Parts = append(m.Parts, anyPart(r, i))
	}
	r.Read(m.Code)
	if r.Intn(2) == 0 {
		m.PH, m.PM, m.Post = r.Intn(9), r.Intn(13), make([]byte, 1+r.Intn(300))
		r.Read(m.Post)
	}
	return m
}

// P13.3: what was put is got, whatever stands behind it.
func TestThereAndBack(t *testing.T) {
	r := rand.New(rand.NewSource(13))
	for range 4000 {
		m := anyModel(r)
		b, e := Put(m)
		if e != api.OK {
			t.Fatalf("Put of %+v: %d", m, e)
		}
		behind := make([]byte, r.Intn(30))
		r.Read(behind)
		got, n, e := Get(slices.Concat(b, behind))
		if e != api.OK || n != len(b) || !same(got, m) {
			t.Fatalf("Get of Put of %+v: %+v, %d of %d, %d", m, got, n, len(b), e)
		}
	}
}

// P13.2, P13.3: bytes with any of them changed, cut off or put between, against a second reading.
func TestChangedBytes(t *testing.T) {
	r := rand.New(rand.NewSource(31))
	right, wrong := 0, 0
	for range 30000 {
		b, e := Put(anyModel(r))
		if e != api.OK {
			t.Fatal(e)
		}
		for range 1 + r.Intn(3) {
			at := r.Intn(min(len(b), 60))
			switch r.Intn(4) {
			case 0:
				b[at] = byte(r.Intn(256))
			case 1:
				b[at] += byte(r.Intn(3) - 1)
			case 2:
				b = slices.Insert(b, at, byte(r.Intn(12)))
			case 3:
				b = b[:len(b)-r.Intn(min(len(b), 4))]
			}
		}
		if compare(t, b) {
			right++
		} else {
			wrong++
		}
	}
	if right < 1000 || wrong < 1000 {
		t.Errorf("%d right, %d wrong", right, wrong)
	}
}

// P13.2, R1: any bytes.
func TestAnyBytes(t *testing.T) {
	r := rand.New(rand.NewSource(7))
	for range 60000 {
		b := make([]byte, r.Intn(60))
		for i := range b {
			b[i] = byte(r.Intn(1 + r.Intn(256)))
		}
		compare(t, b)
	}
}

// filled is a list with spare room behind it, all of it this number.
func filled(n, spare int, with byte) []byte {
	return slices.Repeat([]byte{with}, n+spare)[:n]
}

// R3: what is handed in stays as it is, its spare room too.
func TestNothingIsChanged(t *testing.T) {
	m := full()
	m.Parts = append(make([]api.Part, 0, 30), m.Parts...)
	m.Code, m.Post = filled(5, 50, 7), filled(6, 60, 8)
	Right(m)
	b, e := Put(m)
	if e != api.OK {
		t.Fatal(e)
	}
	whole := append(slices.Clone(b), filled(9, 0, 3)...)
	in := slices.Clone(whole)[:len(b)]
	Get(in)
	if !slices.Equal(in[:len(whole)], whole) {
		t.Error("Get changed the bytes")
	}
	wide := m.Parts[:cap(m.Parts)]
	if !slices.Equal(wide[:10], full().Parts) || !slices.Equal(wide[10:], make([]api.Part, 20)) {
		t.Error("the parts were changed")
	}
	if !slices.Equal(m.Code[:55], filled(55, 0, 7)) || !slices.Equal(m.Post[:66], filled(66, 0, 8)) {
		t.Error("a program was changed")
	}
}

// scribble writes over a list and its spare room.
func scribble(l []byte) {
	l = l[:cap(l)]
	for i := range l {
		l[i] = 99
	}
}

// R3: what is handed out is new, and its lists share nothing.
func TestWhatIsHandedOutIsNew(t *testing.T) {
	m := full()
	b, _ := Put(m)
	scribble(b)
	if !same(m, full()) {
		t.Error("Put's bytes are the model's")
	}
	in := fullBytes()
	for i := range 3 {
		got, _, _ := Get(in)
		lists := [][]byte{got.Code, got.Post, in}
		scribble(lists[i])
		wants := [][]byte{full().Code, full().Post, fullBytes()}
		for j, want := range wants {
			if j != i && !slices.Equal(lists[j], want) {
				t.Errorf("list %d shares memory with list %d", j, i)
			}
		}
	}
	one, _, _ := Get(fullBytes())
	two, _, _ := Get(fullBytes())
	clear(one.Parts[:cap(one.Parts)])
	scribble(one.Code)
	scribble(one.Post)
	if !same(two, full()) {
		t.Error("two answers share memory")
	}
}

// R4: what was asked ahead changes no answer.
func TestAskedAgain(t *testing.T) {
	for range 3 {
		if b, e := Put(full()); e != api.OK || !slices.Equal(b, fullBytes()) {
			t.Errorf("Put: %v, %d", b, e)
		}
		if m, n, e := Get(fullBytes()); e != api.OK || n != len(fullBytes()) || !same(m, full()) {
			t.Errorf("Get: %+v, %d, %d", m, n, e)
		}
		refused(t, fullBytes()[:20], api.ErrShort)
		both(t, "nothing", api.Model{}, api.ErrPart)
	}
}

// R6: an empty list is as good as none.
func TestEmptyListsAreNone(t *testing.T) {
	m := api.Model{Parts: constants(1), Code: []byte{}, Post: []byte{}}
	x, e := Put(m)
	m.Code, m.Post = nil, nil
	y, f := Put(m)
	if e != api.OK || f != api.OK || !slices.Equal(x, y) {
		t.Errorf("%v, %d and %v, %d", x, e, y, f)
	}
	both(t, "no parts", api.Model{Parts: []api.Part{}}, api.ErrPart)
	refused(t, []byte{}, api.ErrShort)
}
