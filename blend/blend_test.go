package blend

import (
	"math"
	"math/rand/v2"
	"slices"
	"testing"

	"quillpress/api"
)

// pair is a blend beside the chapter's words.
type pair struct {
	t *testing.T
	b *Blend
	x *words
}

func newPair(t *testing.T, l []api.Part) pair {
	t.Helper()
	b, e := New(l)
	if e != api.OK {
		t.Fatalf("New of %v: %d", l, e)
	}
	return pair{t, b, newWords(l)}
}

// same holds what both say against each other.
func (p pair) same() {
	p.t.Helper()
	want := p.x.leans()
	got := p.b.Leans()
	if !slices.Equal(got, want) {
		p.t.Fatalf("parts %v behind %d bytes and %v: leans %v, not %v", p.x.l, len(p.x.past), p.x.bits, got, want)
	}
	if n := slices.Max(got); n > 2047 {
		p.t.Fatalf("a lean of %d", n)
	}
	if n := slices.Min(got); n < -2047 {
		p.t.Fatalf("a lean of %d", n)
	}
	if g := p.b.Guess(); g != p.x.guess() || g < 16 || g > 65520 {
		p.t.Fatalf("guess %d, not %d", g, p.x.guess())
	}
	if n := p.b.Bits(); n != len(p.x.bits) {
		p.t.Fatalf("%d bits, not %d", n, len(p.x.bits))
	}
}

func (p pair) set(h ...uint32) {
	p.t.Helper()
	if e := p.b.Contexts(h); e != api.OK {
		p.t.Fatalf("Contexts: %d", e)
	}
	p.x.set(h)
	p.same()
}

func (p pair) learn(bit int) {
	p.t.Helper()
	if e := p.b.Learn(bit); e != api.OK {
		p.t.Fatalf("Learn(%d): %d", bit, e)
	}
	p.x.learn(bit)
	p.same()
}

func (p pair) byte(n byte) {
	p.t.Helper()
	for k := 7; k >= 0; k-- {
		p.learn(int(n >> k & 1))
	}
}

// anyPart is a part that may stand at a place.
func anyPart(r *rand.Rand, place int) api.Part {
	size := r.IntN(17)
	if r.IntN(2) == 0 {
		size = r.IntN(4)
	}
	limit := 1 + r.IntN(1023)
	if r.IntN(2) == 0 {
		limit = 1 + r.IntN(20)
	}
	early := func() int { return r.IntN(place) }
	rate := 1 + r.IntN(64)
	k := api.PartKind(1 + r.IntN(9))
	if place == 0 {
		k = api.PartKind(1 + r.IntN(4))
	}
	switch k {
	case api.PConst:
		return api.Part{Kind: k, C: r.IntN(4095) - 2047}
	case api.PCm:
		return api.Part{Kind: k, Size: size, Limit: limit}
	case api.PIcm:
		return api.Part{Kind: k, Size: size}
	case api.PMatch:
		return api.Part{Kind: k, Size: max(4, size)}
	case api.PAvg:
		return api.Part{Kind: k, A: early(), B: early(), C: r.IntN(257)}
	case api.PMix2:
		return api.Part{Kind: k, Size: size, A: early(), B: early(), Rate: rate}
	case api.PMix:
		n := 1 + r.IntN(min(8, place))
		return api.Part{Kind: k, Size: min(size, 12), A: r.IntN(place - n + 1), B: n, Rate: rate}
	case api.PIsse:
		return api.Part{Kind: k, Size: size, A: early()}
	}
	return api.Part{Kind: api.PSse, Size: min(size, 10), A: early(), Limit: limit}
}

// anyParts is a right list of n parts.
func anyParts(r *rand.Rand, n int) []api.Part {
	var l []api.Part
	for i := range n {
		l = append(l, anyPart(r, i))
	}
	return l
}

// anyBytes are bytes of some kind: of few sorts, over and over, or any.
func anyBytes(r *rand.Rand, n int) []byte {
	b := make([]byte, n)
	kind, period, turned := r.IntN(5), 1+r.IntN(40), byte(r.IntN(2)*255)
	for i := range b {
		switch {
		case kind == 0:
			b[i] = byte(r.IntN(256))
		case kind == 1:
			b[i] = byte(r.IntN(2) * 255)
		case i < period || r.IntN(50) == 0:
			b[i] = byte(r.IntN(3)*77) ^ turned
		default:
			b[i] = b[i-period]
		}
	}
	return b
}

// anyContexts are contexts of the bytes up to now: too few, too many, of no byte, of some bytes, now and then any.
func anyContexts(r *rand.Rand, past []byte) []uint32 {
	h := make([]uint32, r.IntN(19))
	for i := range h {
		for k := range min(i%5, len(past)) {
			h[i] = (h[i] + uint32(past[len(past)-1-k]) + 512) * 773
		}
		if r.IntN(30) == 0 {
			h[i] = r.Uint32()
		}
	}
	return h
}

// P12.1, P12.2, P12.3: lists of all kinds of parts, with contexts of all kinds, go as the chapter's words do.
func TestAgainstWords(t *testing.T) {
	met, kinds := map[string]int{}, map[api.PartKind]int{}
	for seed := range uint64(300) {
		r := rand.New(rand.NewPCG(seed, 12))
		l := anyParts(r, 1+r.IntN(16))
		p := newPair(t, l)
		p.same()
		for _, n := range anyBytes(r, 30+r.IntN(120)) {
			// Now and then none are set, or more than once.
			for r.IntN(10) > 0 {
				p.set(anyContexts(r, p.x.past)...)
				if r.IntN(10) > 0 {
					break
				}
			}
			p.byte(n)
		}
		for what, n := range p.x.met {
			met[what] += n
		}
		for _, part := range l {
			kinds[part.Kind]++
		}
	}
	for k := api.PConst; k <= api.PSse; k++ {
		if kinds[k] < 50 {
			t.Errorf("kind %d only %d times", k, kinds[k])
		}
	}
	for _, what := range []string{"looked", "match of none", "match from the beginning", "match overwritten", "match but bits", "match above 15", "match above 32", "limit", "mix below", "mix above", "isse below", "isse above", "mix2 weight below", "mix2 weight above"} {
		if met[what] < 10 {
			t.Errorf("%s: met %d times", what, met[what])
		}
	}
}

// made is a blend of these parts.
func made(t *testing.T, l ...api.Part) *Blend {
	t.Helper()
	return newPair(t, l).b
}

// leans holds a blend's leans against these.
func leans(t *testing.T, b *Blend, want ...int) {
	t.Helper()
	if l := b.Leans(); !slices.Equal(l, want) {
		t.Errorf("leans %v, not %v", l, want)
	}
}

// after learns these bits and holds what the last part leans then against the lean behind each of them.
func after(t *testing.T, b *Blend, bitsAndLeans ...int) {
	t.Helper()
	for i := 0; i < len(bitsAndLeans); i += 2 {
		if e := b.Learn(bitsAndLeans[i]); e != api.OK {
			t.Fatalf("Learn: %d", e)
		}
		l := b.Leans()
		if n := l[len(l)-1]; n != bitsAndLeans[i+1] {
			t.Fatalf("behind bit %d: %d, not %d", i/2, n, bitsAndLeans[i+1])
		}
	}
}

// put puts a byte in, which no part may refuse.
func put(t *testing.T, b *Blend, n byte) {
	t.Helper()
	for k := 7; k >= 0; k-- {
		if e := b.Learn(int(n >> k & 1)); e != api.OK {
			t.Fatalf("Learn: %d", e)
		}
	}
}

// P12.1, P12.2: the chapter's examples.
func TestExamples(t *testing.T) {
	b := made(t, api.Part{Kind: api.PCm, Limit: 255})
	if g := b.Guess(); g != 32768 {
		t.Errorf("guess %d", g)
	}
	// Squash(Stretch(3071)) is Squash(284).
	if e, g := b.Learn(1), b.Guess(); e != api.OK || g != 16*((2994*100+3349*28+64)/128) {
		t.Errorf("%d, guess %d", e, g)
	}
	b = made(t, api.Part{Kind: api.PConst, C: 128})
	for i := range 40 {
		if g := b.Guess(); g != 40800 {
			t.Errorf("guess %d", g)
		}
		if e := b.Learn(i % 3 % 2); e != api.OK {
			t.Errorf("Learn: %d", e)
		}
	}
}

// P12.1: New's errors are those of parts.Right, and beside them there is no blend.
func TestNewRefuses(t *testing.T) {
	big := api.Part{Kind: api.PMatch, Size: 16}
	full := []api.Part{big, big, big, big, big, big, big, big}
	one := api.Part{Kind: api.PCm, Limit: 1}
	for i, x := range []struct {
		l []api.Part
		e api.Errno
	}{
		{nil, api.ErrPart},
		{[]api.Part{}, api.ErrPart},
		{[]api.Part{{}}, api.ErrPart},
		{[]api.Part{{Kind: 10}}, api.ErrPart},
		{[]api.Part{{Kind: api.PConst, C: 2048}}, api.ErrPart},
		{[]api.Part{{Kind: api.PCm, Size: 17, Limit: 1}}, api.ErrPart},
		{[]api.Part{{Kind: api.PCm, Size: -1, Limit: 1}}, api.ErrPart},
		{[]api.Part{{Kind: api.PMatch, Size: 3}}, api.ErrPart},
		{[]api.Part{one, {Kind: api.PIsse, A: 1}}, api.ErrPart},
		{[]api.Part{one, {Kind: api.PMix, B: 0, Rate: 1}}, api.ErrPart},
		{[]api.Part{one, {Kind: api.PMix, A: 1, B: 1, Rate: 1}}, api.ErrPart},
		{make([]api.Part, 17), api.ErrPart},
		{append(slices.Clone(full), one), api.ErrMemory},
		{append(slices.Clone(full), one, api.Part{}), api.ErrPart},
		{full, api.OK},
		{slices.Repeat([]api.Part{one}, 16), api.OK},
		{slices.Repeat([]api.Part{one}, 17), api.ErrPart},
	} {
		if b, e := New(x.l); e != x.e || (b == nil) != (e != api.OK) {
			t.Errorf("list %d: %v, %d, not %d", i, b, e, x.e)
		}
	}
}

// P12.1: how the parts lean at first.
func TestFirstLeans(t *testing.T) {
	b := made(t,
		api.Part{Kind: api.PConst, C: 300}, api.Part{Kind: api.PConst, C: 300}, api.Part{Kind: api.PConst, C: 300}, api.Part{Kind: api.PConst, C: -2047},
		api.Part{Kind: api.PCm, Limit: 1}, api.Part{Kind: api.PIcm}, api.Part{Kind: api.PMatch, Size: 4},
		api.Part{Kind: api.PMix2, A: 0, B: 3, Rate: 1},
		api.Part{Kind: api.PMix, A: 0, B: 3, Rate: 1},
		api.Part{Kind: api.PMix, A: 3, B: 1, Rate: 1},
		api.Part{Kind: api.PIsse, A: 3},
		api.Part{Kind: api.PSse, A: 3, Limit: 1},
		api.Part{Kind: api.PAvg, A: 0, B: 3, C: 1},
		api.Part{Kind: api.PAvg, A: 0, B: 3, C: 256},
		api.Part{Kind: api.PAvg, A: 0, B: 3, C: 0},
	)
	// (300 - 2047) / 2 is -873.5; 900 * 21845 / 65536 less than 300; (300 - 255 * 2047) / 256 is -2037.8; the least place as likely as 1 is -2047.
	leans(t, b, 300, 300, 300, -2047, 0, 0, 0, -874, 299, -2047, -2047, -2047, -2038, 300, -2047)
}

// P12.1: a new context may be set between bytes alone; what is refused changes nothing.
func TestContextsInsideAByte(t *testing.T) {
	r := rand.New(rand.NewPCG(1, 1))
	l := []api.Part{{Kind: api.PCm, Size: 8, Limit: 9}, {Kind: api.PMatch, Size: 5}, {Kind: api.PMix, Size: 3, B: 2, Rate: 9}}
	p := newPair(t, l)
	for range 60 {
		p.set(uint32(r.IntN(3)), uint32(r.IntN(2)), 5)
		n := byte(r.IntN(2) * 0x5a)
		for k := 7; k >= 0; k-- {
			p.learn(int(n >> k & 1))
			want := api.ErrArg
			if k == 0 {
				break
			}
			for _, h := range [][]uint32{nil, {}, {1, 2, 3}, make([]uint32, 20)} {
				if e := p.b.Contexts(h); e != want {
					t.Fatalf("Contexts behind %d bits: %d", 8-k, e)
				}
			}
			p.same()
		}
	}
}

// P12.1: the parts behind the last context have 0, not what they had; contexts behind the last part are none.
func TestContextsTooFewAndTooMany(t *testing.T) {
	cm := api.Part{Kind: api.PCm, Size: 16, Limit: 9}
	l := []api.Part{cm, cm, cm}
	for _, h := range [][]uint32{nil, {}, {7}, {7, 8}, {7, 8, 9}, {7, 8, 9, 10}, make([]uint32, 1000), {0xffffffff, 1 << 31, 1}} {
		p := newPair(t, l)
		p.byte(0xff)
		// What was learned up to now was at the context 0.
		first := p.b.Leans()[0]
		p.set(70, 80, 90, 100)
		leans(t, p.b, 0, 0, 0)
		p.set(h...)
		for i, n := range p.b.Leans() {
			if zero := i >= len(h) || h[i] == 0; zero != (n == first) || zero != (n != 0) {
				t.Errorf("%v: part %d leans %d", h, i, n)
			}
		}
		p.byte(0xf0)
	}
}

// P12.1: from 0 to 7, and 0 again.
func TestBits(t *testing.T) {
	b := made(t, api.Part{Kind: api.PConst})
	for i := range 100 {
		if n := b.Bits(); n != i%8 {
			t.Errorf("%d bits, not %d", n, i%8)
		}
		b.Learn(i / 3 % 2)
	}
}

// P12.1: a place hangs on the context, the bits of the byte and the table's size, as told.
func TestPlaces(t *testing.T) {
	// These were worked out apart from the program.
	for _, x := range []struct {
		context, c uint32
		size, want int
	}{{0, 1, 16, 15110}, {1, 1, 16, 40142}, {0xffffffff, 255, 16, 38507}, {123456789, 77, 12, 1435}, {5, 1, 1, 0}, {6, 2, 4, 12}, {77, 3, 0, 0}} {
		m := lay(x.size, 1, same(0))
		for i := range m.all {
			m.all[i] = i
		}
		if n := m.at(moment{context: x.context, c: x.c})[0]; n != x.want {
			t.Errorf("context %d, c %d, size %d: %d, not %d", x.context, x.c, x.size, n, x.want)
		}
	}
	// Of one part, what was learned at a context is told at those that share its place, and at no others.
	r := rand.New(rand.NewPCG(3, 3))
	for size := range 17 {
		p := newPair(t, []api.Part{{Kind: api.PCm, Size: size, Limit: 30}})
		for range 40 {
			p.set(r.Uint32() >> r.IntN(32))
			p.byte(byte(r.IntN(2) * 255))
		}
	}
}

// P12.2: a PCm moves by its count, which its limit ends; cut towards 0.
func TestCm(t *testing.T) {
	// 2097152, 3145727, 3495252, 2621439, 2097152 (not one less): the last one by a fifth.
	b := made(t, api.Part{Kind: api.PCm, Limit: 255})
	after(t, b, 1, 284, 1, 416, 0, 131, 0, 0)
	// With the limit 1 each but the first by a third: 3145727, 3495252, 3728269, 3883613; down again by a third: 2589076.
	b = made(t, api.Part{Kind: api.PCm, Limit: 1})
	after(t, b, 1, 284, 1, 416, 1, 535, 1, 648, 0, 123)
}

// P12.2: a PCm's count goes to its limit and no further, whatever that is.
func TestLimits(t *testing.T) {
	for _, limit := range []int{1, 2, 3, 16, 254, 255, 256, 1022, 1023} {
		p := newPair(t, []api.Part{{Kind: api.PCm, Limit: limit}, {Kind: api.PSse, A: 0, Limit: limit}})
		for i := range 2 * limit {
			p.learn(i / 5 % 2)
		}
		for range limit / 2 {
			p.learn(1)
		}
		if p.x.met["limit"] == 0 {
			t.Errorf("limit %d was not met", limit)
		}
	}
}

// P12.2: a PIcm's places have states, whose chances are shared.
func TestIcm(t *testing.T) {
	// At the state 1 the chance is 49152 still. Back at the state 0 it is one 64th off.
	b := made(t, api.Part{Kind: api.PIcm})
	after(t, b, 1, 284)
	b = made(t, api.Part{Kind: api.PIcm})
	after(t, b, 0, -284)
	b = made(t, api.Part{Kind: api.PIcm, Size: 16})
	after(t, b, 1, 8, 0, 0, 0, -8)
}

// P12.2: a PAvg divides down.
func TestAvg(t *testing.T) {
	for _, x := range []struct{ a, b, c, want int }{
		{1, -2, 128, -1}, {1, 0, 128, 0}, {-1, 0, 128, -1}, {-1, 0, 1, -1}, {-1, 0, 0, 0}, {-1, 5, 256, -1}, {2047, -2047, 0, -2047}, {2047, -2047, 256, 2047}, {2047, 2047, 77, 2047}, {-2047, -2047, 77, -2047}, {2047, -2047, 129, 15}, {2047, -2047, 127, -16},
	} {
		b := made(t, api.Part{Kind: api.PConst, C: x.a}, api.Part{Kind: api.PConst, C: x.b}, api.Part{Kind: api.PAvg, A: 0, B: 1, C: x.c})
		for bit := range 2 {
			leans(t, b, x.a, x.b, x.want)
			b.Learn(bit)
		}
	}
}

// constants are parts with these leans.
func constants(leans ...int) []api.Part {
	var l []api.Part
	for _, c := range leans {
		l = append(l, api.Part{Kind: api.PConst, C: c})
	}
	return l
}

// P12.2: a PMix2's weight moves by its error, its rate and how far its two parts are apart.
func TestMix2(t *testing.T) {
	l := append(constants(512, 0, -1), api.Part{Kind: api.PMix2, A: 0, B: 1, Rate: 8})
	// 1101 * 8 * 512 + 512 makes 4404 more: 37172 * 512 / 65536 is 290.
	after(t, made(t, l...), 1, 290)
	// -2994 * 8 * 512 + 512 makes 11976 less: 20792.
	after(t, made(t, l...), 0, 162)
	leans(t, made(t, append(constants(-1, 0), api.Part{Kind: api.PMix2, A: 0, B: 1, Rate: 8})...), -1, 0, -1)
	leans(t, made(t, append(constants(-1, 0), api.Part{Kind: api.PMix2, A: 0, B: 0, Rate: 8})...), -1, 0, -1)
}

// P12.2: a PMix2's weight is from 0 to 65535: of all of its one part it never has more than that.
func TestMix2Edges(t *testing.T) {
	for _, c := range []int{500, -500} {
		for bit := range 2 {
			p := newPair(t, append(constants(c, 0), api.Part{Kind: api.PMix2, A: 0, B: 1, Rate: 64}))
			for range 16 {
				p.learn(bit)
			}
			want := 0
			if (bit == 1) == (c > 0) {
				want = down(65535*c, 65536)
			}
			leans(t, p.b, c, 0, want)
			for i := range 16 {
				p.learn(i % 2)
			}
		}
	}
}

// P12.2: a PMix has a weight of each of its parts, and a lean from -2047 to 2047.
func TestMix(t *testing.T) {
	mix := func(n int) api.Part { return api.Part{Kind: api.PMix, A: 1, B: n, Rate: 64} }
	l := append(constants(77, 128, -128, 0), mix(3))
	// At first the weights are 21845. The error is 2047; each moves by (2047 * 64 * 128 + 8192) / 16384, which is 1024, or by -1023.5 divided down.
	leans(t, made(t, l...), 77, 128, -128, 0, 0)
	after(t, made(t, l...), 1, 3)
	after(t, made(t, l...), 0, -4)
	// All of eight parts lean 2047: what is above or below is brought to the edge.
	for _, c := range []int{2047, -2047} {
		for bit := range 2 {
			p := newPair(t, append(constants(0, c, c, c, c, c, c, c, c), mix(8)))
			for range 40 {
				p.learn(bit)
			}
			if got := p.b.Leans()[9]; (c > 0) == (bit == 1) && got != down(8*8192*c, 65536) {
				t.Errorf("a lean of %d", got)
			}
			for i := range 40 {
				p.learn(i % 2)
			}
		}
	}
}

// P12.2: a PMix's weights are from -2^20 to 2^20.
func TestMixEdges(t *testing.T) {
	for bit := range 2 {
		p := newPair(t, append(constants(64), api.Part{Kind: api.PMix, B: 1, Rate: 64}))
		for range 20000 {
			p.learn(bit)
		}
		leans(t, p.b, 64, 2048*bit-1024)
		for range 100 {
			p.learn(1 - bit)
		}
		if p.x.met["mix weight above"]+p.x.met["mix weight below"] < 1000 {
			t.Errorf("the edge was met too seldom")
		}
	}
}

// P12.2: a PIsse's pair belongs to a state, not to a place.
func TestIsse(t *testing.T) {
	isse := func(size int) api.Part { return api.Part{Kind: api.PIsse, Size: size, A: 0} }
	// At the next state the pair is as it was at first.
	after(t, made(t, append(constants(1000), isse(0))...), 0, 1000, 0, 1000)
	// At the state 0 of another place: 65536 - 490, -125.
	after(t, made(t, append(constants(1000), isse(16))...), 0, 992)
	// The other way: 82 * 1000 + 4096 makes 10 more, 82 + 16 makes 3 more.
	after(t, made(t, append(constants(1000), isse(16))...), 1, 1000)
	// 2047 of the error: 64 more, of which 64 parts of 65536 lean nothing; down from 0 that is one less.
	after(t, made(t, append(constants(0), isse(16))...), 1, 0)
	after(t, made(t, append(constants(0), isse(16))...), 0, -1)
}

// P12.2: both of a PIsse's weights are from -2^20 to 2^20.
func TestIsseEdges(t *testing.T) {
	for bit := range 2 {
		p := newPair(t, append(constants(0), api.Part{Kind: api.PIsse, A: 0}))
		for range 130000 {
			p.b.Learn(bit)
			p.x.learn(bit)
		}
		p.same()
		leans(t, p.b, 0, 2048*bit-1024)
		if p.x.met["isse weight 1 above"]+p.x.met["isse weight 1 below"] < 1000 {
			t.Errorf("the second weight's edge was met too seldom")
		}
	}
	// The first weight comes so far only by a past too long for a test: it begins just ahead of its edge, and goes on towards it till it would be seen beyond.
	for bit, near := range []int{-heavy + 3, heavy - 3} {
		p := newPair(t, append(constants(40), api.Part{Kind: api.PIsse, A: 0}))
		for s := range 256 {
			p.b.parts[1].(*isse).weights[s][0] = near
			p.x.kept[cell{1, "weight", s, 0}] = near
		}
		p.b.ask()
		for range 5000 {
			p.learn(bit)
		}
		for i := range 100 {
			p.learn(i / 20 % 2)
		}
		if p.x.met["isse weight 0 above"]+p.x.met["isse weight 0 below"] < 3000 {
			t.Errorf("the first weight's edge was met too seldom")
		}
	}
}

// P12.2: a PSse has 32 entries at each place; the earlier part's lean says which.
func TestSse(t *testing.T) {
	// The entry of 512 is the 19th, of 461: its chance is 3505 * 1024, then 3891711, which is 3800.
	l := append(constants(512), api.Part{Kind: api.PSse, A: 0, Limit: 255})
	leans(t, made(t, l...), 512, 461)
	after(t, made(t, l...), 1, 656)
	for c := -2047; c <= 2047; c++ {
		p := newPair(t, append(constants(c), api.Part{Kind: api.PSse, A: 0, Limit: 1}))
		p.same()
		p.learn(1)
		p.learn(0)
	}
	// Another entry of the same place has learned nothing.
	p := newPair(t, []api.Part{{Kind: api.PCm, Limit: 1023}, {Kind: api.PSse, Size: 2, A: 0, Limit: 1023}})
	for i := range 500 {
		p.learn(i / 50 % 2)
	}
}

// P12.2: a match's lean grows with its length, to 960; bits of another byte end it till the byte ends.
func TestMatch(t *testing.T) {
	b := made(t, api.Part{Kind: api.PMatch, Size: 4})
	for i := range 30 {
		b.Contexts([]uint32{7})
		far := 0
		// The first two contexts find nothing: before the first byte the number is 0, and that is none.
		if i >= 2 {
			far = 64 * min(i-1, 15)
		}
		for k, bit := range []int{0, 1, 1, 0, 0, 0, 0, 1} {
			if l := b.Leans()[0]; l != far*(2*bit-1) {
				t.Fatalf("byte %d, bit %d: %d, not %d", i, k, l, far*(2*bit-1))
			}
			b.Learn(bit)
		}
	}
	b.Contexts([]uint32{7})
	after(t, b, 0, 960, 1, 960, 0, 0, 0, 0, 0, 0, 0, 0, 0, 0, 1, 0)
	// Ahead of the same context there is another byte now.
	b.Contexts([]uint32{7})
	leans(t, b, 0)
}

// P12.2: a match goes on without contexts; a new one is looked for with contexts alone.
func TestMatchWithoutContexts(t *testing.T) {
	b := made(t, api.Part{Kind: api.PMatch, Size: 4})
	for range 5 {
		put(t, b, 0x61)
		leans(t, b, 0)
	}
	b.Contexts([]uint32{7})
	put(t, b, 0x61)
	b.Contexts([]uint32{7})
	leans(t, b, -64*5)
	for i := range 4 {
		put(t, b, 0x61)
		// From the place of the match on these were put in already.
		leans(t, b, -64*(6+i))
	}
	put(t, b, 0xe1)
	leans(t, b, 0)
	put(t, b, 0x61)
	leans(t, b, 0)
}

// P12.2: as many bytes as there were ahead of the number, and no more, are a match's first length; the ring's noughts ahead of them are none.
func TestMatchLength(t *testing.T) {
	b := made(t, api.Part{Kind: api.PMatch, Size: 4})
	for _, far := range []int{0, -64, -128, -192} {
		put(t, b, 0)
		b.Contexts([]uint32{5})
		leans(t, b, far)
	}
	// Three of the bytes ahead are the same, the fourth is not.
	b = made(t, api.Part{Kind: api.PMatch, Size: 6})
	for i, n := range []byte("xabcdyabcd") {
		put(t, b, n)
		if i == 3 {
			b.Contexts([]uint32{9})
		}
		if i == 8 {
			b.Contexts([]uint32{9})
			leans(t, b, -64*3)
		}
	}
	leans(t, b, -64*4)
	// None is the same.
	put(t, b, 'z')
	b.Contexts([]uint32{9})
	leans(t, b, 0)
}

// P12.2: when contexts are set twice, the number is that of the bytes up to now: all of them are the same.
func TestMatchTwice(t *testing.T) {
	b := made(t, api.Part{Kind: api.PMatch, Size: 4})
	for range 3 {
		// Of no bytes the number is 0, which is none.
		b.Contexts([]uint32{9})
		leans(t, b, 0)
	}
	put(t, b, 'a')
	put(t, b, 'b')
	put(t, b, 'c')
	b.Contexts([]uint32{9})
	leans(t, b, 0)
	for range 3 {
		b.Contexts([]uint32{9})
		leans(t, b, -64*3)
	}
	// While there is a length nothing is looked for, but the number is set.
	b.Contexts([]uint32{4})
	leans(t, b, -64*3)
	put(t, b, 'd')
	b.Contexts([]uint32{4})
	leans(t, b, 0)
}

// P12.2: a ring has 2^Size bytes: what is older than that is overwritten.
func TestMatchRing(t *testing.T) {
	for _, size := range []int{4, 5, 8} {
		for ahead := 1<<size - 3; ahead <= 1<<size+3; ahead++ {
			p := newPair(t, []api.Part{{Kind: api.PMatch, Size: size}})
			p.byte('q')
			p.set(3)
			for i := range ahead {
				p.byte(byte(i*7 + 1))
				p.set(uint32(100 + i))
			}
			p.byte('q')
			p.set(3)
			p.byte(1)
			p.byte(8)
		}
	}
}

// P12.2: long matches, in rings of all sizes, with bytes that are wrong in each bit.
func TestMatchAgainstWords(t *testing.T) {
	for size := 4; size <= 16; size++ {
		r := rand.New(rand.NewPCG(uint64(size), 4))
		p := newPair(t, []api.Part{{Kind: api.PMatch, Size: size}, {Kind: api.PMatch, Size: 4}, {Kind: api.PMatch, Size: 20 - size}})
		for i := range 600 {
			h := uint32(0)
			if n := len(p.x.past); n > 1 {
				h = uint32(p.x.past[n-1])<<8 | uint32(p.x.past[n-2])
			}
			p.set(h, h>>8, 0)
			n := byte("the sea, the sea, the land"[i%26])
			if r.IntN(25) == 0 {
				n ^= 1 << r.IntN(8)
			}
			p.byte(n)
		}
		// A ring of 16 has forgotten the last time that the text said the same.
		if size > 4 && p.x.met["match above 32"] == 0 {
			t.Errorf("size %d: no match was long", size)
		}
	}
}

// P12.2: parts learn from the leans as they were: what an earlier one learns at a bit a later one goes by at the next bit alone.
func TestLeansAheadOfLearning(t *testing.T) {
	l := []api.Part{{Kind: api.PCm, Limit: 1}, {Kind: api.PMix, A: 0, B: 1, Rate: 64}, {Kind: api.PIsse, Size: 16, A: 0}, {Kind: api.PSse, A: 0, Limit: 9}}
	p := newPair(t, l)
	p.learn(1)
	// The PCm leaned nothing, so that the mix and the first weight of the PIsse have not moved; the entry that moved is that of no lean.
	leans(t, p.b, 284, 284, 284, p.x.leans()[3])
	q := newPair(t, []api.Part{{Kind: api.PConst, C: 284}, {Kind: api.PSse, A: 0, Limit: 9}})
	if a, b := p.b.Leans()[3], q.b.Leans()[1]; a != b {
		t.Errorf("an entry of another lean: %d, not %d", a, b)
	}
	for i := range 64 {
		p.learn(i / 3 % 2)
	}
}

// P12.2: a bit that is none is refused, and nothing is learned of it.
func TestWrongBits(t *testing.T) {
	p := newPair(t, []api.Part{{Kind: api.PCm, Size: 3, Limit: 9}, {Kind: api.PIsse, Size: 2}, {Kind: api.PMatch, Size: 4}})
	for i := range 80 {
		if i%8 == 0 {
			p.set(4, 4, 4)
		}
		for _, bit := range []int{-1, 2, 3, 255, 256, 257, 1 << 32, 1<<32 + 1, -2, math.MinInt, math.MinInt + 1, math.MaxInt} {
			if e := p.b.Learn(bit); e != api.ErrArg {
				t.Fatalf("Learn(%d): %d", bit, e)
			}
		}
		p.same()
		p.learn(i / 4 % 2)
	}
}

// P12.3: two that are handed the same say the same, however often they are asked, and whatever others are handed meanwhile.
func TestTwins(t *testing.T) {
	for seed := range uint64(40) {
		r := rand.New(rand.NewPCG(seed, 77))
		l := anyParts(r, 8)
		a, b, other := made(t, l...), made(t, l...), made(t, l...)
		for range 60 {
			h, bits := anyContexts(r, nil), r.IntN(256)
			a.Contexts(h)
			b.Contexts(h)
			other.Contexts([]uint32{1, 2, 3})
			for k := range 8 {
				for range r.IntN(3) {
					b.Guess()
					b.Leans()
					b.Bits()
				}
				if !slices.Equal(a.Leans(), b.Leans()) || a.Guess() != b.Guess() || a.Bits() != b.Bits() {
					t.Fatalf("twins of %v differ", l)
				}
				a.Learn(bits >> k & 1)
				other.Learn(r.IntN(2))
				b.Learn(bits >> k & 1)
			}
		}
	}
}

// P12.3: no lean goes past the edges, though every bit is the one that was not guessed.
func TestContrary(t *testing.T) {
	for seed := range uint64(60) {
		r := rand.New(rand.NewPCG(seed, 5))
		p := newPair(t, append(anyParts(r, 15), api.Part{Kind: api.PMix, Size: r.IntN(3), A: 7, B: 8, Rate: 64}))
		turned := int(seed % 2)
		for i := range 400 {
			if i%8 == 0 {
				p.set(anyContexts(r, p.x.past)...)
			}
			bit := turned
			if p.b.Guess() >= 32768 {
				bit = 1 - turned
			}
			p.learn(bit)
		}
	}
}

// R5: what is no blend, or a copy by hand, answers zeros and ErrNil; the blend that was copied goes on.
func TestNoBlend(t *testing.T) {
	b := made(t, api.Part{Kind: api.PCm, Limit: 9})
	b.Learn(1)
	copied := *b
	for i, x := range []*Blend{nil, {}, new(Blend), &copied} {
		for range 2 {
			if g, l, n := x.Guess(), x.Leans(), x.Bits(); g != 0 || l != nil || n != 0 {
				t.Errorf("%d: guess %d, leans %v, %d bits", i, g, l, n)
			}
			for _, bit := range []int{0, 1, 2, -1} {
				if e := x.Learn(bit); e != api.ErrNil {
					t.Errorf("%d: Learn: %d", i, e)
				}
			}
			for _, h := range [][]uint32{nil, {1}} {
				if e := x.Contexts(h); e != api.ErrNil {
					t.Errorf("%d: Contexts: %d", i, e)
				}
			}
		}
	}
	leans(t, b, 284)
	after(t, b, 1, 416)
}

// R3: what is handed in is neither changed nor kept; what is handed out is new.
func TestHandedInAndOut(t *testing.T) {
	parts := append(constants(5, 6, 7, 8), api.Part{Kind: api.PCm, Size: 16, Limit: 9}, api.Part{Kind: api.PMix, Size: 4, A: 0, B: 5, Rate: 9})
	handed := slices.Clone(parts)
	b, e := New(handed[:3])
	whole, f := New(handed)
	if e != api.OK || f != api.OK || !slices.Equal(handed, parts) {
		t.Fatalf("%d, %d, %v", e, f, handed)
	}
	clear(handed)
	leans(t, b, 5, 6, 7)
	p := pair{t, whole, newWords(parts)}
	p.same()
	h := []uint32{1, 2, 3, 4, 5, 6, 7, 8}
	for range 20 {
		given := slices.Clone(h)
		p.b.Contexts(given[:5])
		p.x.set(h[:5])
		if !slices.Equal(given, h) {
			t.Fatalf("contexts changed to %v", given)
		}
		clear(given)
		p.same()
		out := p.b.Leans()
		again := p.b.Leans()
		clear(out[:cap(out)])
		if slices.Equal(out, again) {
			t.Fatalf("two answers share memory")
		}
		p.same()
		p.byte(0x3c)
	}
}

// R4: New answers the same again, whatever other blends have learned.
func TestAskedAgain(t *testing.T) {
	r := rand.New(rand.NewPCG(9, 9))
	for range 20 {
		l := anyParts(r, 10)
		first := made(t, l...).Leans()
		b := made(t, l...)
		for range 100 {
			b.Learn(r.IntN(2))
		}
		if again := made(t, l...).Leans(); !slices.Equal(first, again) {
			t.Errorf("%v, then %v", first, again)
		}
	}
}
