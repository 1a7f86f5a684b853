package octets

import (
	"bytes"
	"math"
	"math/big"
	"slices"
	"strings"
	"testing"

	"quillpress/api"
)

// kind is one length of numbers, asked and put alike, so that each test holds for all four.
type kind struct {
	name string
	n    int
	ask  func(b []byte, at int) (uint64, bool)
	put  func(b []byte, v uint64) []byte
}

func kinds() []kind {
	return []kind{
		{"8", 1, wide(U8), narrow(Add8)},
		{"16", 2, wide(U16), narrow(Add16)},
		{"32", 4, wide(U32), narrow(Add32)},
		{"64", 8, wide(U64), narrow(Add64)},
	}
}

func wide[N number](f func([]byte, int) (N, bool)) func([]byte, int) (uint64, bool) {
	return func(b []byte, at int) (uint64, bool) {
		v, ok := f(b, at)
		return uint64(v), ok
	}
}

func narrow[N number](f func([]byte, N) []byte) func([]byte, uint64) []byte {
	return func(b []byte, v uint64) []byte {
		return f(b, N(v))
	}
}

// greatest is the greatest number of n bytes.
func greatest(n int) uint64 {
	return math.MaxUint64 >> (64 - 8*n)
}

// numbers are ordinary ones of n bytes, and those at the edges.
func numbers(n int) []uint64 {
	l := []uint64{0, 1, 2, 127, 128, 255}
	for _, v := range []uint64{256, 258, 32768, 65535, 65536, 0x01020304, 1 << 31, math.MaxUint32, 1 << 32, 0x0102030405060708, 1 << 63, math.MaxUint64} {
		if v <= greatest(n) {
			l = append(l, v)
		}
	}
	return l
}

// meant works a number out by the chapter's words: the last byte counts once, each one ahead of it 256 times as much as the next.
func meant(b []byte) uint64 {
	sum, weight := new(big.Int), big.NewInt(1)
	for _, c := range slices.Backward(b) {
		sum.Add(sum, new(big.Int).Mul(weight, big.NewInt(int64(c))))
		weight.Mul(weight, big.NewInt(256))
	}
	return sum.Uint64()
}

// samples are lists of bytes of many lengths.
func samples() [][]byte {
	l := [][]byte{nil, {}}
	for n := 1; n <= 20; n++ {
		count, full, mixed := make([]byte, n), bytes.Repeat([]byte{255}, n), make([]byte, n)
		for i := range n {
			count[i] = byte(i + 1)
			mixed[i] = byte(i*89 + n*151 + 7)
		}
		l = append(l, count, full, mixed, make([]byte, n))
	}
	return l
}

// roomy is b with 32 bytes of spare room that are known.
func roomy(b []byte) []byte {
	l := make([]byte, len(b)+32)
	for i := range l {
		l[i] = 0xa5
	}
	copy(l, b)
	return l[:len(b)]
}

// stayed tells whether neither the bytes of b nor its spare room have changed since roomy(was).
func stayed(b, was []byte) bool {
	all := b[:cap(b)]
	return bytes.Equal(all[:len(was)], was) && bytes.Count(all[len(was):], []byte{0xa5}) == cap(b)-len(was)
}

// scribble writes over a list and its spare room, as far as it goes.
func scribble(b []byte) {
	all := b[:cap(b)]
	for i := range all {
		all[i] = 0x3c
	}
}

// none are places that are none of n bytes, whatever is asked for.
func none(n int) []int {
	return []int{-1, -2, -8, -255, math.MinInt32, math.MinInt, math.MinInt + 1, n, n + 1, n + 8, n + 1000, math.MaxInt32, math.MaxInt - 8, math.MaxInt - 7, math.MaxInt - 4, math.MaxInt - 3, math.MaxInt - 2, math.MaxInt - 1, math.MaxInt}
}

// P1.1: the chapter's first example, and its like.
func TestAskExamples(t *testing.T) {
	if v, ok := U16([]byte{1, 2}, 0); v != 258 || !ok {
		t.Error("U16", v, ok)
	}
	if v, ok := U32([]byte{128, 0, 0, 1}, 0); v != 2147483649 || !ok {
		t.Error("U32", v, ok)
	}
	if v, ok := U8([]byte{5}, 0); v != 5 || !ok {
		t.Error("U8", v, ok)
	}
	if v, ok := U64([]byte{1, 2, 3, 4, 5, 6, 7, 8}, 0); v != 72623859790382856 || !ok {
		t.Error("U64", v, ok)
	}
	if v, ok := U64([]byte{1, 2, 3, 4, 5, 6, 7}, 0); v != 0 || ok {
		t.Error("U64 of seven bytes", v, ok)
	}
	for _, at := range []int{1, -1} {
		if v, ok := U16([]byte{1, 2}, at); v != 0 || ok {
			t.Error("U16 at", at, v, ok)
		}
	}
}

// P1.1, P1.3: a number stands at just the first places, n - 1 fewer than there are bytes, and is what its bytes say.
func TestAskEveryPlace(t *testing.T) {
	for _, k := range kinds() {
		for _, b := range samples() {
			places := max(0, len(b)-(k.n-1))
			for at := range len(b) + 10 {
				var want uint64
				if at < places {
					want = meant(b[at : at+k.n])
				}
				if v, ok := k.ask(b, at); v != want || ok != (at < places) {
					t.Errorf("U%s(%x, %d) = %d %t, not %d", k.name, b, at, v, ok, want)
				}
			}
		}
	}
}

// P1.1: no number stands at a place that is none, however far it is.
func TestAskNoPlace(t *testing.T) {
	for _, k := range kinds() {
		for _, b := range samples() {
			for _, at := range none(len(b)) {
				if v, ok := k.ask(b, at); v != 0 || ok {
					t.Errorf("U%s of %d bytes at %d = %d %t", k.name, len(b), at, v, ok)
				}
			}
		}
	}
}

// P1.1: bytes that lie in the spare room are not there.
func TestAskSpareRoom(t *testing.T) {
	for _, k := range kinds() {
		b := roomy(make([]byte, k.n))
		for at := range 8 {
			if v, ok := k.ask(b, at); v != 0 || ok != (at == 0) {
				t.Errorf("U%s at %d = %d %t", k.name, at, v, ok)
			}
		}
		if v, ok := k.ask(b[:k.n-1], 0); v != 0 || ok {
			t.Errorf("U%s of %d bytes = %d %t", k.name, k.n-1, v, ok)
		}
	}
	if s, to, ok := Text(roomy([]byte{0, 1}), 0); s != "" || to != 0 || ok {
		t.Errorf("%q %d %t", s, to, ok)
	}
}

// P1.2: the chapter's second example, and its like.
func TestPutExamples(t *testing.T) {
	for _, c := range []struct {
		got  []byte
		want string
	}{
		{Add8([]byte{9}, 255), "\x09\xff"},
		{Add16([]byte{9}, 258), "\x09\x01\x02"},
		{Add32([]byte{9}, 258), "\x09\x00\x00\x01\x02"},
		{Add64([]byte{9}, 258), "\x09\x00\x00\x00\x00\x00\x00\x01\x02"},
		{Add8(nil, 0), "\x00"},
		{Add16(nil, 65535), "\xff\xff"},
		{Add32(nil, 2147483649), "\x80\x00\x00\x01"},
		{Add64(nil, math.MaxUint64), "\xff\xff\xff\xff\xff\xff\xff\xff"},
		{Add64([]byte{}, 0x0102030405060708), "\x01\x02\x03\x04\x05\x06\x07\x08"},
	} {
		if string(c.got) != c.want {
			t.Errorf("%x, not %x", c.got, c.want)
		}
	}
}

// P1.2, P1.3: what is put has what was there ahead of it, and is told from where that ended.
func TestPutIsTold(t *testing.T) {
	for _, k := range kinds() {
		for _, b := range samples() {
			for _, v := range numbers(k.n) {
				got := k.put(b, v)
				if len(got) != len(b)+k.n || !bytes.HasPrefix(got, b) || meant(got[len(b):]) != v {
					t.Fatalf("Add%s(%x, %d) = %x", k.name, b, v, got)
				}
				if w, ok := k.ask(got, len(b)); w != v || !ok {
					t.Errorf("U%s of Add%s(%x, %d) = %d %t", k.name, k.name, b, v, w, ok)
				}
			}
		}
	}
}

// P1.3: whatever is put behind a number, it is told; of what is cut off nothing is.
func TestPutBehindAndCut(t *testing.T) {
	for _, k := range kinds() {
		v := 0xfedcba9876543210 & greatest(k.n)
		one := k.put([]byte{7, 7, 7}, v)
		for _, b := range samples() {
			if w, ok := k.ask(slices.Concat(one, b), 3); w != v || !ok {
				t.Errorf("U%s with %x behind it = %d %t", k.name, b, w, ok)
			}
		}
		for cut := range len(one) {
			if w, ok := k.ask(one[:cut], 3); w != 0 || ok {
				t.Errorf("U%s of the first %d bytes = %d %t", k.name, cut, w, ok)
			}
		}
	}
}

// P1.3: a number of twice as many bytes is two numbers, one behind the other.
func TestTwoNumbers(t *testing.T) {
	l := kinds()
	for i, double := range l[1:] {
		half := l[i]
		for _, high := range numbers(half.n) {
			for _, low := range numbers(half.n) {
				both := high<<(8*half.n) | low
				two := half.put(half.put([]byte{1}, high), low)
				if got := double.put([]byte{1}, both); !bytes.Equal(got, two) {
					t.Errorf("Add%s: %x, not %x", double.name, got, two)
				}
				if v, ok := double.ask(two, 1); v != both || !ok {
					t.Errorf("U%s(%x) = %d %t", double.name, two, v, ok)
				}
			}
		}
	}
}

// P1.1, P1.2: the chapter's texts.
func TestTextExamples(t *testing.T) {
	b, e := AddText(nil, "\x05\x06")
	if string(b) != "\x00\x02\x05\x06" || e != api.OK {
		t.Fatalf("%x %d", b, e)
	}
	if s, to, ok := Text(b, 0); s != "\x05\x06" || to != 4 || !ok {
		t.Errorf("%q %d %t", s, to, ok)
	}
	if s, to, ok := Text(b, 1); s != "" || to != 0 || ok {
		t.Errorf("%q %d %t", s, to, ok)
	}
	if b, e = AddText([]byte{9}, ""); string(b) != "\x09\x00\x00" || e != api.OK {
		t.Errorf("%x %d", b, e)
	}
	if s, to, ok := Text(b, 1); s != "" || to != 3 || !ok {
		t.Errorf("%q %d %t", s, to, ok)
	}
}

// texts are ordinary ones, some that are no UTF-8, and those about the lengths where the number's first byte begins to count.
func texts() []string {
	l := []string{"", "a", "\x00", "\xff\xfe\x80", "naïve – text", "two\nlines", string([]byte{0, 2, 5, 6})}
	for _, n := range []int{254, 255, 256, 257, 511, 512, 32767, 32768, 65534, 65535} {
		l = append(l, strings.Repeat("q\x00\xff", n/3+1)[:n])
	}
	return l
}

// P1.1, P1.2, P1.3: a text is told, and where it ends, wherever it was put and whatever is put behind.
func TestTextIsTold(t *testing.T) {
	for _, s := range texts() {
		for _, ahead := range [][]byte{nil, {}, {0}, {255, 255}, {0, 1, 2, 3, 4}} {
			b, e := AddText(ahead, s)
			if e != api.OK || len(b) != len(ahead)+2+len(s) || !bytes.HasPrefix(b, ahead) {
				t.Fatalf("AddText of %d bytes: %d bytes, %d", len(s), len(b), e)
			}
			if meant(b[len(ahead):len(ahead)+2]) != uint64(len(s)) || string(b[len(ahead)+2:]) != s {
				t.Fatalf("AddText of %d bytes: others stand there", len(s))
			}
			for _, behind := range []string{"", "x", "\xff\xff\xff"} {
				got, to, ok := Text(append(slices.Clone(b), behind...), len(ahead))
				if got != s || to != len(b) || !ok {
					t.Errorf("Text of %d bytes: %d bytes, %d %t", len(s), len(got), to, ok)
				}
			}
		}
	}
}

// P1.3: of a text that is cut off nothing is told.
func TestTextCut(t *testing.T) {
	for _, s := range texts() {
		b, _ := AddText([]byte{1, 2}, s)
		for _, cut := range []int{0, 1, 2, 3, 4, len(b) / 2, len(b) - 2, len(b) - 1} {
			if cut >= len(b) {
				continue
			}
			if got, to, ok := Text(b[:cut], 2); got != "" || to != 0 || ok {
				t.Errorf("Text of %d bytes, of which %d are there: %d bytes, %d %t", len(s), cut, len(got), to, ok)
			}
		}
	}
}

// P1.1: no text stands where no number of two bytes does.
func TestTextNoPlace(t *testing.T) {
	for _, b := range samples() {
		for _, at := range append(none(len(b)), len(b)-1) {
			if s, to, ok := Text(b, at); s != "" || to != 0 || ok {
				t.Errorf("Text of %d bytes at %d: %q %d %t", len(b), at, s, to, ok)
			}
		}
	}
}

// P1.1: texts that stand one behind the other are gone through by their ends.
func TestTextsInARow(t *testing.T) {
	var b []byte
	for _, s := range texts() {
		b, _ = AddText(b, s)
	}
	at := 0
	for _, want := range texts() {
		s, to, ok := Text(b, at)
		if s != want || to != at+2+len(want) || !ok {
			t.Fatalf("at %d: %d bytes, %d %t", at, len(s), to, ok)
		}
		at = to
	}
	if at != len(b) {
		t.Errorf("%d, not %d", at, len(b))
	}
}

// P1.2 and the chapter's limit: 65535 bytes are a text, 65536 and more are refused with nothing beside.
func TestTextTooLong(t *testing.T) {
	for _, b := range [][]byte{nil, {}, {1, 2, 3}} {
		if got, e := AddText(b, strings.Repeat("z", api.MaxString)); e != api.OK || len(got) != len(b)+2+65535 {
			t.Errorf("65535 bytes: %d bytes, %d", len(got), e)
		}
		for _, n := range []int{65536, 65537, 65536 + 5, 131072, 1 << 20} {
			room := roomy(b)
			if got, e := AddText(room, strings.Repeat("z", n)); e != api.ErrLong || len(got) != 0 || !stayed(room, b) {
				t.Errorf("%d bytes: %d bytes, %d", n, len(got), e)
			}
		}
	}
}

// R3: what is handed in stays, its spare room too, whatever is asked and put.
func TestHandedInStays(t *testing.T) {
	for _, was := range samples() {
		b := roomy(was)
		for _, k := range kinds() {
			for at := -1; at <= len(b)+1; at++ {
				k.ask(b, at)
				Text(b, at)
			}
			scribble(k.put(b, 0x0102030405060708))
			if !stayed(b, was) {
				t.Fatalf("Add%s or U%s changed %x", k.name, k.name, was)
			}
		}
		for _, s := range []string{"", "abc", "a text that is longer than the room that is spare"} {
			got, _ := AddText(b, s)
			scribble(got)
			if !stayed(b, was) {
				t.Fatalf("AddText changed %x", was)
			}
		}
	}
}

// R3: what is handed out is kept by nobody: it stays when what was handed in changes, and two answers share nothing, spare room neither.
func TestHandedOutIsNew(t *testing.T) {
	puts := map[string]func(b []byte) []byte{"AddText": func(b []byte) []byte {
		got, _ := AddText(b, "text")
		return got
	}}
	for _, k := range kinds() {
		puts["Add"+k.name] = func(b []byte) []byte { return k.put(b, 5) }
	}
	for name, put := range puts {
		b := roomy([]byte{1, 2, 3})
		one, two := put(b), put(b)
		want := slices.Clone(one)
		scribble(two)
		scribble(b)
		if !bytes.Equal(one, want) {
			t.Errorf("%s: %x, not %x", name, one, want)
		}
	}
	b, _ := AddText(nil, "text")
	s, _, _ := Text(b, 0)
	scribble(b)
	if s != "text" {
		t.Errorf("%q", s)
	}
}

// R6: an empty list and none are the same.
func TestEmptyIsNone(t *testing.T) {
	for _, k := range kinds() {
		if a, b := k.put(nil, 1), k.put([]byte{}, 1); !bytes.Equal(a, b) || len(a) != k.n {
			t.Errorf("Add%s: %x, %x", k.name, a, b)
		}
		for _, b := range [][]byte{nil, {}} {
			if v, ok := k.ask(b, 0); v != 0 || ok {
				t.Errorf("U%s of none: %d %t", k.name, v, ok)
			}
		}
	}
	a, e := AddText(nil, "ab")
	b, f := AddText([]byte{}, "ab")
	if !bytes.Equal(a, b) || e != f {
		t.Errorf("AddText: %x %d, %x %d", a, e, b, f)
	}
}
