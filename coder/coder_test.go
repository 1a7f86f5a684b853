package coder

import (
	"bytes"
	"math"
	"math/rand"
	"slices"
	"testing"

	"quillpress/api"
)

// step is a bit that is put, and its chance.
type step struct{ bit, p int }

// put puts bits that must all be taken.
func put(t *testing.T, e *Encoder, l ...step) {
	t.Helper()
	for i, s := range l {
		if x := e.Put(s.bit, s.p); x != api.OK {
			t.Fatalf("Put(%d, %d), the bit %d: %d", s.bit, s.p, i, x)
		}
	}
}

// encoded is a new encoder of these bits.
func encoded(t *testing.T, l ...step) *Encoder {
	t.Helper()
	e := NewEncoder()
	put(t, e, l...)
	return e
}

// tells asks what an encoder tells of itself.
func tells(t *testing.T, what string, e *Encoder, shed int, end ...byte) {
	t.Helper()
	if n, b := e.Len(), e.End(); n != shed || !bytes.Equal(b, end) {
		t.Fatalf("%s: %d shed, End %v; not %d, %v", what, n, b, shed, end)
	}
}

// gets asks the next bit of a decoder, which must be this one.
func gets(t *testing.T, d *Decoder, p, want int) {
	t.Helper()
	if bit, x := d.Get(p); bit != want || x != api.OK {
		t.Fatalf("Get(%d): %d, %d; not %d", p, bit, x, want)
	}
}

// chances are ways to choose a chance, each with edges of its own.
func chances(r *rand.Rand) []func() int {
	return []func() int{
		func() int { return 1 + r.Intn(65535) },
		func() int { return 1 },
		func() int { return 65535 },
		func() int { return 32768 },
		func() int { return 16 + 16*r.Intn(4095) },
		func() int { return 1 + r.Intn(300) },
		func() int { return 65535 - r.Intn(300) },
		func() int { return 1 << r.Intn(16) },
		func() int { return 65536 - 1<<r.Intn(16) },
		func() int { return []int{1, 2, 255, 256, 257, 32767, 32768, 65279, 65280, 65534, 65535}[r.Intn(11)] },
	}
}

// picks are ways to choose a bit whose chance is p.
func picks(r *rand.Rand) []func(p int) int {
	drawn := func(p int) int {
		if r.Intn(65536) < p {
			return 1
		}
		return 0
	}
	return []func(p int) int{
		drawn,
		func(p int) int { return 1 - drawn(p) },
		func(int) int { return r.Intn(2) },
		func(int) int { return 0 },
		func(int) int { return 1 },
	}
}

// steps are so many bits in each of the ways.
func steps(seed int64, n int) [][]step {
	r := rand.New(rand.NewSource(seed))
	var all [][]step
	for _, chance := range chances(r) {
		for _, pick := range picks(r) {
			var l []step
			for range n {
				p := chance()
				l = append(l, step{pick(p), p})
			}
			all = append(all, l)
		}
	}
	return all
}

// narrow brings an interval to where it is about a border of the highest byte, from 00FF0000 to 0100FE01.
func narrow() []step {
	return []step{{0, 255}, {1, 2}}
}

// narrower goes on to 00FFFF01 to 0100FE01: less than 65536 wide.
func narrower() []step {
	return append(narrow(), step{0, 32768})
}

// P14.1: the chapter's examples.
func TestExamples(t *testing.T) {
	tells(t, "no bits", NewEncoder(), 0, 0, 0, 0, 0)
	tells(t, "Put(1, 32768)", encoded(t, step{1, 32768}), 0, 0, 0, 0, 0)
	tells(t, "Put(0, 32768)", encoded(t, step{0, 32768}), 0, 128, 0, 0, 0)
	tells(t, "Put(1, 1)", encoded(t, step{1, 1}), 2, 0, 0, 0, 0, 0, 0)
	// y shows in where a nought behind it begins: of 2^31 numbers the last half, of all of them the last half.
	tells(t, "y 2147483647", encoded(t, step{1, 32768}, step{0, 32768}), 0, 64, 0, 0, 0)
	tells(t, "y 65535, shed", encoded(t, step{1, 1}, step{0, 32768}), 2, 0, 0, 128, 0, 0, 0)
}

// P14.1: how many bytes one bit sheds: from none to four.
func TestShed(t *testing.T) {
	tells(t, "none", encoded(t, step{1, 257}), 0, 0, 0, 0, 0)
	tells(t, "one", encoded(t, step{1, 256}), 1, 0, 0, 0, 0, 0)
	tells(t, "one of the highest", encoded(t, step{0, 65535}, step{0, 32768}), 2, 255, 255, 128, 0, 0, 0)
	tells(t, "about the border", encoded(t, narrow()...), 0, 0, 255, 0, 0)
	tells(t, "three", encoded(t, append(narrow(), step{1, 1})...), 3, 0, 255, 0, 0, 0, 0, 0)
	tells(t, "closer about the border", encoded(t, narrower()...), 0, 0, 255, 255, 1)
	tells(t, "four", encoded(t, append(narrower(), step{1, 1})...), 4, 0, 255, 255, 1, 0, 0, 0, 0)
	// Behind four the interval is whole.
	tells(t, "behind four", encoded(t, append(narrower(), step{1, 1}, step{0, 32768})...), 4, 0, 255, 255, 1, 128, 0, 0, 0)
}

// P14.1, P14.2: the first bit of each chance; numbers on both sides of the cut.
func TestEachChance(t *testing.T) {
	for p := 1; p <= 65535; p++ {
		for bit := range 2 {
			w := newWords()
			w.take(bit, p)
			tells(t, "the first bit", encoded(t, step{bit, p}), len(w.shed), w.end()...)
		}
		m := newWords().cut(p)
		for _, z := range []int{0, m - 1, m, m + 1, m + 2, 1<<32 - 1} {
			d := NewDecoder([]byte{byte(z >> 24), byte(z >> 16), byte(z >> 8), byte(z)})
			want := 0
			if z <= m {
				want = 1
			}
			gets(t, d, p, want)
		}
	}
}

// P14.1: what is shed, how much, and what is told at the end, behind each bit.
func TestPutAgainstWords(t *testing.T) {
	var met [5]int
	for seed := range int64(12) {
		for _, l := range steps(seed, 300) {
			e, w := NewEncoder(), newWords()
			if seed%2 == 1 {
				l = append(narrower(), l...)
			}
			for _, s := range l {
				put(t, e, s)
				w.take(s.bit, s.p)
				tells(t, "behind a bit", e, len(w.shed), w.end()...)
			}
			for n, times := range w.met {
				met[n] += times
			}
		}
	}
	if slices.Contains(met[:], 0) {
		t.Errorf("so often none, one, .. four bytes were shed: %v", met)
	}
}

// strings are bytes to be read: few, many, alike, about borders, any.
func strings(r *rand.Rand) [][]byte {
	all := [][]byte{nil, {}, {128}, bytes.Repeat([]byte{255}, 20), make([]byte, 9), {0, 255, 255, 1, 0, 255, 255}, {127, 255, 255, 255, 255}, {128, 0, 0, 0, 0}}
	for n := range 40 {
		b := make([]byte, n)
		r.Read(b)
		all = append(all, b)
	}
	return all
}

// P14.2: bits and how many bytes have been taken, far past the end of the bytes.
func TestGetAgainstWords(t *testing.T) {
	r := rand.New(rand.NewSource(5))
	var met [5]int
	ahead := []int{255, 2, 32768}
	for range 4 {
		for _, b := range strings(r) {
			for _, chance := range chances(r) {
				d, w := NewDecoder(b), newReadWords(b)
				for i := range 400 {
					if n := d.Read(); n != w.read() {
						t.Fatalf("%v: %d read ahead of the bit %d, not %d", b, n, i, w.read())
					}
					p := chance()
					if i < len(ahead) && len(b)%2 == 1 {
						p = ahead[i]
					}
					gets(t, d, p, w.get(p))
				}
				for n, times := range w.met {
					met[n] += times
				}
			}
		}
	}
	if slices.Contains(met[:], 0) {
		t.Errorf("so often none, one, .. four bytes were shed: %v", met)
	}
}

// P14.2: the first four bytes are taken at once, as far as there are any.
func TestReadAtFirst(t *testing.T) {
	for n := range 10 {
		if got := NewDecoder(make([]byte, n)).Read(); got != min(n, 4) {
			t.Errorf("of %d bytes %d are read at first", n, got)
		}
	}
}

// P14.2: behind the end there are noughts: with and without them the bits are the same, but not what was read.
func TestNoughtsBehind(t *testing.T) {
	r := rand.New(rand.NewSource(6))
	for _, b := range strings(r) {
		for _, chance := range chances(r) {
			d, long := NewDecoder(b), NewDecoder(slices.Concat(b, make([]byte, 2000)))
			shed := 0
			for range 500 {
				p := chance()
				bit, x := long.Get(p)
				if x != api.OK {
					t.Fatal(x)
				}
				gets(t, d, p, bit)
				shed = long.Read() - 4
				if n := d.Read(); n != min(len(b), shed+4) {
					t.Fatalf("%v: %d read, %d shed", b, n, shed)
				}
			}
		}
	}
	d := NewDecoder(nil)
	for range 100000 {
		gets(t, d, 1, 1)
	}
	if d.Read() != 0 {
		t.Errorf("%d of no bytes read", d.Read())
	}
}

// back asks that a decoder of what End tells tells all bits, having taken no more bytes than it needs and all of them at the end.
func back(t *testing.T, e *Encoder, l []step) {
	t.Helper()
	b := e.End()
	d := NewDecoder(b)
	for i, s := range l {
		if bit, x := d.Get(s.p); bit != s.bit || x != api.OK {
			t.Fatalf("the bit %d of %d: %d, %d; not %d", i, len(l), bit, x, s.bit)
		}
	}
	if d.Read() != len(b) || len(b) != e.Len()+4 {
		t.Fatalf("%d bits: %d of %d bytes read, %d shed", len(l), d.Read(), len(b), e.Len())
	}
}

// P14.3: there and back, at each beginning too.
func TestBack(t *testing.T) {
	for seed := range int64(4) {
		for _, l := range steps(100+seed, 120) {
			e := NewEncoder()
			back(t, e, nil)
			for i, s := range l {
				put(t, e, s)
				back(t, e, l[:i+1])
			}
		}
		for _, l := range steps(200+seed, 4000) {
			back(t, encoded(t, l...), l)
		}
	}
}

// P14.3: all bits that fit, and the bytes of a bit that goes past.
func TestBackOfAll(t *testing.T) {
	r := rand.New(rand.NewSource(7))
	for _, pick := range picks(r)[:3] {
		e := NewEncoder()
		var l []step
		for {
			p := 1 + r.Intn(65535)
			s := step{pick(p), p}
			if x := e.Put(s.bit, s.p); x == api.ErrLong {
				break
			}
			l = append(l, s)
		}
		if n := e.Len(); n < 65536 || n > 65539 {
			t.Errorf("%d bytes", n)
		}
		back(t, e, l)
	}
}

// shedding is an encoder that has shed n bytes, and its interval is whole.
func shedding(t *testing.T, n int) *Encoder {
	t.Helper()
	e := NewEncoder()
	if n%2 == 1 {
		put(t, e, step{1, 256})
	}
	for range n / 2 {
		put(t, e, step{1, 1})
	}
	if e.Len() != n {
		t.Fatalf("%d shed, not %d", e.Len(), n)
	}
	return e
}

// P14.1: 65536 bytes that were shed are too many for one bit more, 65535 are not, though that bit may shed four.
func TestLong(t *testing.T) {
	for _, x := range []struct {
		shed int
		more []step
		want int
	}{
		{65535, []step{{1, 256}}, 65536},
		{65535, []step{{1, 1}}, 65537},
		{65535, append(narrow(), step{1, 1}), 65538},
		{65535, append(narrower(), step{1, 1}), 65539},
		{65534, []step{{1, 1}}, 65536},
		{65536, nil, 65536},
	} {
		e := shedding(t, x.shed)
		put(t, e, x.more...)
		if e.Len() != x.want {
			t.Fatalf("%d shed, not %d", e.Len(), x.want)
		}
		was := e.End()
		for range 3 {
			for _, s := range []step{{0, 1}, {1, 1}, {0, 65535}, {1, 65535}, {0, 32768}, {1, 32768}} {
				if y := e.Put(s.bit, s.p); y != api.ErrLong {
					t.Errorf("Put(%d, %d) behind %d bytes: %d", s.bit, s.p, x.want, y)
				}
			}
			for _, s := range wrong() {
				if y := e.Put(s.bit, s.p); y != api.ErrArg {
					t.Errorf("Put(%d, %d) behind %d bytes: %d", s.bit, s.p, x.want, y)
				}
			}
		}
		tells(t, "what was refused", e, x.want, was...)
	}
	// Bytes count, not bits: these narrow the interval to about a fifth, and shed none.
	e := shedding(t, 65535)
	for range 100000 {
		put(t, e, step{1, 65535})
	}
	if e.Len() != 65535 {
		t.Errorf("%d shed", e.Len())
	}
}

// wrongChances are both sides' nearest and farthest chances that may not be, and those whose low bits may.
func wrongChances() []int {
	return []int{0, -1, -32768, -65535, 65536, 65537, 65536 + 32768, 1<<32 + 1, 1<<32 - 1, -1<<32 + 5, math.MaxInt, math.MinInt, math.MinInt + 1}
}

// wrong are bits and chances that may not be put.
func wrong() []step {
	var l []step
	for _, p := range wrongChances() {
		l = append(l, step{0, p}, step{1, p}, step{2, p})
	}
	for _, bit := range []int{-1, 2, 3, 256, 257, 1 << 32, 1<<32 + 1, math.MaxInt, math.MinInt, math.MinInt + 1} {
		l = append(l, step{bit, 1}, step{bit, 32768}, step{bit, 65535})
	}
	return l
}

// P14.1, R2: what may not be put changes nothing.
func TestPutRefuses(t *testing.T) {
	for _, l := range steps(9, 20) {
		e, w := NewEncoder(), newWords()
		for _, s := range l {
			for _, no := range wrong() {
				if x := e.Put(no.bit, no.p); x != api.ErrArg {
					t.Fatalf("Put(%d, %d): %d", no.bit, no.p, x)
				}
			}
			tells(t, "what was refused", e, len(w.shed), w.end()...)
			put(t, e, s)
			w.take(s.bit, s.p)
		}
		tells(t, "behind all", e, len(w.shed), w.end()...)
	}
}

// P14.2, R2: what may not be asked tells no bit, and changes nothing.
func TestGetRefuses(t *testing.T) {
	r := rand.New(rand.NewSource(8))
	for _, b := range strings(r) {
		d, w := NewDecoder(b), newReadWords(b)
		for range 60 {
			for _, p := range wrongChances() {
				if bit, x := d.Get(p); bit != 0 || x != api.ErrArg {
					t.Fatalf("Get(%d): %d, %d", p, bit, x)
				}
			}
			if d.Read() != w.read() {
				t.Fatalf("%d read, not %d", d.Read(), w.read())
			}
			p := 1 + r.Intn(65535)
			gets(t, d, p, w.get(p))
		}
	}
}

// R5: what is no encoder, or a copy by hand, answers zeros, ErrNil ahead of all else; the one that was copied goes on.
func TestNoEncoder(t *testing.T) {
	e := encoded(t, step{1, 1}, step{0, 32768})
	copied := *e
	full := *shedding(t, 65536)
	for i, x := range []*Encoder{nil, {}, new(Encoder), &copied, &full} {
		for _, s := range append(wrong(), step{0, 1}, step{1, 1}, step{0, 65535}, step{1, 65535}) {
			if y := x.Put(s.bit, s.p); y != api.ErrNil {
				t.Errorf("%d: Put(%d, %d): %d", i, s.bit, s.p, y)
			}
		}
		if x.Len() != 0 || len(x.End()) != 0 {
			t.Errorf("%d: Len %d, End %v", i, x.Len(), x.End())
		}
	}
	tells(t, "what was copied", e, 2, 0, 0, 128, 0, 0, 0)
}

// R5: the same of decoders.
func TestNoDecoder(t *testing.T) {
	d := NewDecoder([]byte{0, 1, 2, 3, 4, 5, 6})
	copied := *d
	for i, x := range []*Decoder{nil, {}, new(Decoder), &copied} {
		for _, p := range append(wrongChances(), 1, 32768, 65535) {
			if bit, y := x.Get(p); bit != 0 || y != api.ErrNil {
				t.Errorf("%d: Get(%d): %d, %d", i, p, bit, y)
			}
		}
		if x.Read() != 0 {
			t.Errorf("%d: Read %d", i, x.Read())
		}
	}
	if d.Read() != 4 {
		t.Errorf("what was copied: Read %d", d.Read())
	}
	gets(t, d, 256, 1)
}

// P14.2: a decoder has no end, and goes on past what an encoder would take.
func TestManyBytes(t *testing.T) {
	b := make([]byte, 70000)
	rand.New(rand.NewSource(10)).Read(b)
	d, w := NewDecoder(b), newReadWords(b)
	for d.Read() < len(b) {
		gets(t, d, 32768, w.get(32768))
		w.shed = nil
	}
	for range 1000 {
		gets(t, d, 300, w.get(300))
	}
	if d.Read() != len(b) {
		t.Errorf("%d read", d.Read())
	}
}

// P14.1: an encoder goes on behind End as if it had not been asked.
func TestEndChangesNothing(t *testing.T) {
	for _, l := range steps(11, 200) {
		asked, left := NewEncoder(), NewEncoder()
		for _, s := range l {
			put(t, asked, s)
			put(t, left, s)
			if x, y := asked.End(), asked.End(); !bytes.Equal(x, y) {
				t.Fatalf("%v, then %v", x, y)
			}
		}
		tells(t, "asked each time", asked, left.Len(), left.End()...)
		back(t, asked, l)
	}
}

// R3: each End is memory of its own, spare room too.
func TestEndIsNew(t *testing.T) {
	for n := range 40 {
		e := shedding(t, n)
		first := e.End()
		was := slices.Clone(first)
		put(t, e, step{0, 65535}, step{0, 65535})
		second := e.End()
		if !bytes.Equal(first, was) {
			t.Fatalf("%d bytes: End has changed behind bits more", n)
		}
		want := slices.Clone(second)
		clear(first[:cap(first)])
		if !bytes.Equal(second, want) || !bytes.Equal(e.End(), want) {
			t.Fatalf("%d bytes: two answers share memory", n)
		}
		for i := range second[:cap(second)] {
			second[:cap(second)][i] = 77
		}
		put(t, e, step{1, 1})
		if b := e.End(); !bytes.Equal(b[:n+4], want[:n+4]) {
			t.Fatalf("%d bytes: an answer is kept", n)
		}
	}
}

// P14.2, R3: a decoder's bytes are its own: those that were handed in stay as they are, and may change.
func TestDecoderHasItsOwn(t *testing.T) {
	for _, text := range strings(rand.New(rand.NewSource(12))) {
		room := bytes.Repeat([]byte{0xa5}, len(text)+50)
		copy(room, text)
		was := slices.Clone(room)
		d, w := NewDecoder(room[:len(text)]), newReadWords(text)
		for i := range 300 {
			p := 1 + i*7919%65535
			gets(t, d, p, w.get(p))
		}
		if !bytes.Equal(room, was) {
			t.Fatalf("%v: what was handed in has changed", text)
		}
		// The spare room is not read, nor what the bytes become.
		d, w = NewDecoder(room[:len(text)]), newReadWords(text)
		for i := range room {
			room[i] ^= 255
		}
		for i := range 300 {
			p := 1 + i*7919%65535
			gets(t, d, p, w.get(p))
		}
	}
}

// R4: coders go their own ways, whatever others do meanwhile.
func TestApart(t *testing.T) {
	l := steps(13, 150)
	var es []*Encoder
	for range l {
		es = append(es, NewEncoder())
	}
	for i := range 150 {
		for k, e := range es {
			put(t, e, l[k][i])
		}
	}
	var ds []*Decoder
	for k, e := range es {
		tells(t, "among others", e, encoded(t, l[k]...).Len(), encoded(t, l[k]...).End()...)
		ds = append(ds, NewDecoder(e.End()))
	}
	for i := range 150 {
		for k, d := range ds {
			gets(t, d, l[k][i].p, l[k][i].bit)
		}
	}
}

// P14.1: what is likely costs little, what is unlikely much: so many bits of information in the bytes, and hardly more.
func TestDear(t *testing.T) {
	for _, p := range []int{16, 1000, 20000, 32768, 60000, 65520} {
		r := rand.New(rand.NewSource(int64(p)))
		pick := picks(r)[0]
		e, dear := NewEncoder(), 0.0
		for range 20000 {
			bit := pick(p)
			put(t, e, step{bit, p})
			q := float64(p) / 65536
			if bit == 0 {
				q = 1 - q
			}
			dear -= math.Log2(q) / 8
		}
		if n := float64(e.Len()); n < dear-5 || n > dear*1.01+5 {
			t.Errorf("chance %d: %v bytes, not about %v", p, n, dear)
		}
	}
}

func BenchmarkPut(b *testing.B) {
	for b.Loop() {
		e := NewEncoder()
		for e.Len() < 65536 {
			e.Put(e.Len()&1, 30000)
		}
	}
}
