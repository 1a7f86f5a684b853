package ctr

import (
	"bytes"
	stdaes "crypto/aes"
	"crypto/cipher"
	"encoding/binary"
	"encoding/hex"
	"math"
	"slices"
	"testing"

	"quillpress/aes"
	"quillpress/api"
)

// fill is n bytes that differ from seed to seed and do not come round with the blocks.
func fill(n, seed int) []byte {
	b := make([]byte, n)
	v := uint32(seed)*2654435761 + 12345
	for i := range b {
		v = v*1664525 + 1013904223
		b[i] = byte(v >> 24)
	}
	return b
}

// roomy is b with spare room that is known.
func roomy(b []byte) []byte {
	l := bytes.Repeat([]byte{0xa5}, len(b)+150)
	copy(l, b)
	return l[:len(b)]
}

// stayed tells whether neither the bytes of b nor its spare room have changed since roomy(was).
func stayed(b, was []byte) bool {
	return bytes.Equal(b[:cap(b)], roomy(was)[:cap(b)])
}

// unhex is the bytes of a text of hexadecimal digits.
func unhex(t *testing.T, s string) []byte {
	t.Helper()
	b, err := hex.DecodeString(s)
	if err != nil {
		t.Fatal(err)
	}
	return b
}

// keyed is a cipher of key, which must be one.
func keyed(t *testing.T, key []byte) *aes.Cipher {
	t.Helper()
	c, e := aes.New(key)
	if e != api.OK {
		t.Fatalf("New of %x: %d", key, e)
	}
	return c
}

// counted is the key 00 01 .. 1F of the chapter's examples.
func counted() []byte {
	key := make([]byte, 32)
	for i := range key {
		key[i] = byte(i)
	}
	return key
}

// streamed is what Stream tells, which must go well.
func streamed(t *testing.T, c *aes.Cipher, nonce []byte, at, n int) []byte {
	t.Helper()
	b, e := Stream(c, nonce, at, n)
	if e != api.OK || len(b) != n {
		t.Fatalf("Stream(%x, %d, %d) = %d bytes, %d", nonce, at, n, len(b), e)
	}
	return b
}

// turned is what Turn tells, which must go well.
func turned(t *testing.T, c *aes.Cipher, nonce []byte, at int, b []byte) []byte {
	t.Helper()
	x, e := Turn(c, nonce, at, b)
	if e != api.OK || len(x) != len(b) {
		t.Fatalf("Turn(%x, %d, %d bytes) = %d bytes, %d", nonce, at, len(b), len(x), e)
	}
	return x
}

// known is b turned at a place, as the library has it.
func known(t *testing.T, key, nonce []byte, at int, b []byte) []byte {
	t.Helper()
	k, err := stdaes.NewCipher(key)
	if err != nil {
		t.Fatal(err)
	}
	first := binary.BigEndian.AppendUint64(slices.Clone(nonce), uint64(at/16))
	s := cipher.NewCTR(k, first)
	// What stands in the first block ahead of the place is gone by.
	s.XORKeyStream(make([]byte, at%16), make([]byte, at%16))
	x := make([]byte, len(b))
	s.XORKeyStream(x, b)
	return x
}

// P6.1: the chapter's examples.
func TestExamples(t *testing.T) {
	c, nonce := keyed(t, counted()), make([]byte, 8)
	first, _ := c.Encrypt(make([]byte, 16))
	second, _ := c.Encrypt(append(make([]byte, 15), 1))
	if s := streamed(t, c, nonce, 0, 16); !bytes.Equal(s, first) {
		t.Errorf("Stream(.., 0, 16) = %x, not %x", s, first)
	}
	if s := streamed(t, c, nonce, 15, 2); s[0] != first[15] || s[1] != second[0] {
		t.Errorf("Stream(.., 15, 2) = %x, not of %x and %x", s, first, second)
	}
	if s, e := Stream(c, nonce, -1, 1); s != nil || e != api.ErrArg {
		t.Errorf("Stream(.., -1, 1) = %x, %d", s, e)
	}
	if s, e := Stream(c, nonce[:7], 0, 1); s != nil || e != api.ErrArg {
		t.Errorf("Stream of a nonce of 7 bytes = %x, %d", s, e)
	}
}

// P6.1: the blocks of SP 800-38A, F.5.5, whose numbers lie past all places.
func TestKnownBlocks(t *testing.T) {
	c := keyed(t, unhex(t, "603deb1015ca71be2b73aef0857d77811f352c073b6108d72d9810a30914dff4"))
	nonce := unhex(t, "f0f1f2f3f4f5f6f7")
	for i, want := range []string{
		"0bdf7df1591716335e9a8b15c860c502",
		"5a6e699d536119065433863c8f657b94",
		"1bc12c9c01610d5d0d8bd6a3378eca62",
		"2956e1c8693536b1bee99c73a31576b6",
	} {
		if b := blockOf(c, nonce, 0xf8f9fafbfcfdfeff+uint64(i)); !bytes.Equal(b, unhex(t, want)) {
			t.Errorf("block %d = %x, not %s", i, b, want)
		}
	}
}

// P6.1: each block is the cipher's of the nonce and the number, the highest byte first.
func TestBlocks(t *testing.T) {
	c, nonce := keyed(t, fill(32, 1)), fill(8, 2)
	for _, i := range []int{0, 1, 2, 255, 256, 257, 0xffff, 0x10000, 0x01020304, 0xfffefdfc, 1<<32 - 1, 1 << 32, 0x0807060504, 1<<36 - 1, 1 << 36} {
		want, e := c.Encrypt(append(slices.Clone(nonce), 0, 0, 0, byte(i>>32), byte(i>>24), byte(i>>16), byte(i>>8), byte(i)))
		if e != api.OK {
			t.Fatal(e)
		}
		if s := streamed(t, c, nonce, 16*i, 16); !bytes.Equal(s, want) {
			t.Errorf("block %d = %x, not %x", i, s, want)
		}
		for j := range 16 {
			if at := 16*i + j; at <= 1<<40 && streamed(t, c, nonce, at, 1)[0] != want[j] {
				t.Errorf("byte %d of block %d is not %x", j, i, want[j])
			}
		}
	}
}

// P6.1: parts of all lengths at all places about a block's end, held against the library's stream.
func TestAgainstLibrary(t *testing.T) {
	key, nonce := fill(32, 3), fill(8, 4)
	c := keyed(t, key)
	for _, from := range []int{0, 16 * 255, 16 * 0xffff, 16*0xffffffff - 20, 1<<40 - 35} {
		for at := from; at < from+36; at++ {
			for _, n := range []int{0, 1, 2, 15, 16, 17, 31, 32, 33, 100} {
				b := fill(n, at+n)
				if s, want := streamed(t, c, nonce, at, n), known(t, key, nonce, at, make([]byte, n)); !bytes.Equal(s, want) {
					t.Fatalf("Stream(.., %d, %d) = %x, not %x", at, n, s, want)
				}
				if x, want := turned(t, c, nonce, at, b), known(t, key, nonce, at, b); !bytes.Equal(x, want) {
					t.Fatalf("Turn(.., %d, %x) = %x, not %x", at, b, x, want)
				}
			}
		}
	}
	for i := range 100 {
		key, nonce, b := fill(32, i), fill(8, i+500), fill(70, i+900)
		if x, want := turned(t, keyed(t, key), nonce, 977*i, b), known(t, key, nonce, 977*i, b); !bytes.Equal(x, want) {
			t.Fatalf("key %x, nonce %x: %x, not %x", key, nonce, x, want)
		}
	}
}

// P6.1: the longest parts, at the first place and at the last one, past which they go.
func TestLongest(t *testing.T) {
	key, nonce := fill(32, 5), fill(8, 6)
	c, b := keyed(t, key), fill(api.MaxDisk, 7)
	for _, at := range []int{0, 1 << 40} {
		if s := streamed(t, c, nonce, at, api.MaxDisk); !bytes.Equal(s, known(t, key, nonce, at, make([]byte, api.MaxDisk))) {
			t.Errorf("Stream at %d", at)
		}
		if x := turned(t, c, nonce, at, b); !bytes.Equal(x, known(t, key, nonce, at, b)) {
			t.Errorf("Turn at %d", at)
		}
	}
}

// P6.1, R2: places and lengths that may not be are refused, with no bytes; those next to them are not.
func TestRefused(t *testing.T) {
	c, nonce := keyed(t, fill(32, 1)), fill(8, 2)
	for _, x := range [][2]int{
		{-1, 0}, {-1, 1}, {-16, 16}, {math.MinInt, 1}, {math.MinInt, 0}, {-1 << 40, 1}, {-1 << 32, 1},
		{1<<40 + 1, 0}, {1<<40 + 1, 1}, {1 << 41, 1}, {math.MaxInt, 0}, {math.MaxInt, 1}, {1<<62 + 1, 1},
		{0, -1}, {1 << 40, -1}, {0, math.MinInt}, {0, api.MaxDisk + 1}, {1 << 40, api.MaxDisk + 1}, {0, 1 << 32}, {0, 1<<32 + 1},
		{0, math.MaxInt}, {16, math.MaxInt}, {-1, -1}, {-1, api.MaxDisk + 1}, {1<<40 + 1, -1}, {math.MaxInt, math.MaxInt}, {math.MinInt, math.MinInt},
	} {
		if s, e := Stream(c, nonce, x[0], x[1]); s != nil || e != api.ErrArg {
			t.Errorf("Stream(.., %d, %d) = %d bytes, %d", x[0], x[1], len(s), e)
		}
	}
	for _, at := range []int{-1, -16, math.MinInt, 1<<40 + 1, 1 << 41, math.MaxInt} {
		for _, b := range [][]byte{nil, {}, {1}, make([]byte, 40)} {
			if x, e := Turn(c, nonce, at, b); x != nil || e != api.ErrArg {
				t.Errorf("Turn(.., %d, %x) = %x, %d", at, b, x, e)
			}
		}
	}
	for _, at := range []int{-1, 0, 1 << 40} {
		if x, e := Turn(c, nonce, at, make([]byte, api.MaxDisk+1)); x != nil || e != api.ErrArg {
			t.Errorf("Turn of too much at %d = %d bytes, %d", at, len(x), e)
		}
	}
	for _, at := range []int{0, 1, 1<<40 - 1, 1 << 40} {
		for _, n := range []int{0, 1} {
			streamed(t, c, nonce, at, n)
			turned(t, c, nonce, at, make([]byte, n, 50))
		}
	}
}

// P6.1, R2: nonces of all lengths but eight bytes are refused.
func TestNonceRefused(t *testing.T) {
	c := keyed(t, fill(32, 1))
	nonces := [][]byte{nil, make([]byte, 65536+8)}
	for n := range 40 {
		nonces = append(nonces, make([]byte, n, 48))
	}
	for _, nonce := range nonces {
		want := api.ErrArg
		if len(nonce) == 8 {
			want = api.OK
		}
		for _, n := range []int{0, 1, 20} {
			if s, e := Stream(c, nonce, 3, n); e != want || e != api.OK && s != nil {
				t.Errorf("Stream, a nonce of %d bytes: %x, %d", len(nonce), s, e)
			}
			if x, e := Turn(c, nonce, 3, make([]byte, n)); e != want || e != api.OK && x != nil {
				t.Errorf("Turn, a nonce of %d bytes: %x, %d", len(nonce), x, e)
			}
		}
	}
}

// P6.1, R5: what is no cipher says so, ahead of what else may not be.
func TestNoCipher(t *testing.T) {
	for _, c := range []*aes.Cipher{nil, {}, new(aes.Cipher)} {
		for _, nonce := range [][]byte{nil, make([]byte, 7), make([]byte, 8)} {
			for _, x := range [][2]int{{0, 0}, {0, 1}, {-1, 1}, {1<<40 + 1, 1}, {0, -1}, {0, api.MaxDisk + 1}, {-1, -1}} {
				if s, e := Stream(c, nonce, x[0], x[1]); s != nil || e != api.ErrNil {
					t.Errorf("Stream(%d, %d) = %x, %d", x[0], x[1], s, e)
				}
				if b, e := Turn(c, nonce, x[0], make([]byte, max(0, x[1]))); b != nil || e != api.ErrNil {
					t.Errorf("Turn(%d, %d bytes) = %x, %d", x[0], x[1], b, e)
				}
			}
		}
	}
}

// P6.1, R6: of no bytes there are none, and no error.
func TestNoBytes(t *testing.T) {
	c, nonce := keyed(t, fill(32, 1)), fill(8, 2)
	for _, at := range []int{0, 5, 16, 1 << 40} {
		streamed(t, c, nonce, at, 0)
		turned(t, c, nonce, at, nil)
		turned(t, c, nonce, at, []byte{})
	}
}

// P6.1: Turn is xor by the stream; of noughts it is the stream.
func TestTurnIsXor(t *testing.T) {
	c, nonce := keyed(t, fill(32, 8)), fill(8, 9)
	for _, at := range []int{0, 7, 16, 1<<40 - 3} {
		b, s := fill(90, at), streamed(t, c, nonce, at, 90)
		x := turned(t, c, nonce, at, b)
		for i := range x {
			if x[i] != b[i]^s[i] {
				t.Fatalf("byte %d at %d: %x, not %x xor %x", i, at, x[i], b[i], s[i])
			}
		}
		if z := turned(t, c, nonce, at, make([]byte, 90)); !bytes.Equal(z, s) {
			t.Errorf("noughts at %d: %x, not %x", at, z, s)
		}
	}
}

// P6.2: Turn of Turn is what it was.
func TestTurnedBack(t *testing.T) {
	c, nonce := keyed(t, fill(32, 10)), fill(8, 11)
	for n := range 70 {
		b := fill(n, n)
		for _, at := range []int{n, 1<<40 - n} {
			x := turned(t, c, nonce, at, b)
			if y := turned(t, c, nonce, at, x); !bytes.Equal(y, b) {
				t.Fatalf("Turn of Turn of %x at %d = %x", b, at, y)
			}
			if n >= 16 && bytes.Equal(x, b) {
				t.Errorf("%x at %d stays as it is", b, at)
			}
		}
	}
}

// P6.2: a part of a stream is that part of a longer one, wherever it begins.
func TestParts(t *testing.T) {
	c, nonce := keyed(t, fill(32, 12)), fill(8, 13)
	for _, from := range []int{0, 1000, 1<<40 - 100} {
		whole := streamed(t, c, nonce, from, 100)
		for i := range 101 {
			for j := i; j <= 100; j++ {
				if s := streamed(t, c, nonce, from+i, j-i); !bytes.Equal(s, whole[i:j]) {
					t.Fatalf("from %d on, %d to %d: %x, not %x", from, i, j, s, whole[i:j])
				}
			}
		}
	}
}

// P6.2: a text turned in parts, each at its place, is the whole turned, whichever part comes first.
func TestTextInParts(t *testing.T) {
	c, nonce := keyed(t, fill(32, 14)), fill(8, 15)
	text := fill(80, 16)
	const at = 9
	whole := turned(t, c, nonce, at, text)
	for i := range 81 {
		for j := i; j <= 80; j++ {
			last := turned(t, c, nonce, at+j, text[j:])
			first := turned(t, c, nonce, at, text[:i])
			middle := turned(t, c, nonce, at+i, text[i:j])
			if x := slices.Concat(first, middle, last); !bytes.Equal(x, whole) {
				t.Fatalf("cut at %d and %d: %x, not %x", i, j, x, whole)
			}
		}
	}
}

// P6.1: each bit of the key and of the nonce counts.
func TestEachBitCounts(t *testing.T) {
	key, nonce := fill(32, 17), fill(8, 18)
	was := streamed(t, keyed(t, key), nonce, 3, 40)
	for _, l := range [][]byte{key, nonce} {
		for i := range 8 * len(l) {
			l[i/8] ^= 1 << (i % 8)
			s := streamed(t, keyed(t, key), nonce, 3, 40)
			if bytes.Equal(s, was) || !bytes.Equal(s, known(t, key, nonce, 3, make([]byte, 40))) {
				t.Fatalf("bit %d of %d bytes: %x", i, len(l), s)
			}
			l[i/8] ^= 1 << (i % 8)
		}
	}
}

// R3: what is handed in stays as it is, spare room too; be it one list that is handed in twice.
func TestHandedInStays(t *testing.T) {
	c := keyed(t, fill(32, 19))
	for _, n := range []int{0, 1, 7, 8, 16, 33, 100} {
		was, text := fill(8, 20), fill(n, 21)
		nonce, b := roomy(was), roomy(text)
		streamed(t, c, nonce, 5, n)
		turned(t, c, nonce, 5, b)
		Turn(c, nonce, -1, b)
		Turn(nil, nonce, 5, b)
		Turn(c, b[:n], 5, nonce)
		if !stayed(nonce, was) || !stayed(b, text) {
			t.Fatalf("%d bytes: what was handed in has changed", n)
		}
		if x, want := turned(t, c, nonce, 5, nonce), turned(t, c, was, 5, slices.Clone(was)); !bytes.Equal(x, want) || !stayed(nonce, was) {
			t.Errorf("a nonce that is the text: %x, not %x", x, want)
		}
	}
}

// R3, R4: what is handed out is new each time: changing it, or what was handed in, changes no other answer.
func TestHandedOutIsNew(t *testing.T) {
	c, nonce := keyed(t, fill(32, 22)), fill(8, 23)
	for _, n := range []int{1, 15, 16, 17, 100} {
		b := fill(n, 24)
		s, x := streamed(t, c, nonce, 0, n), turned(t, c, nonce, 0, b)
		wasStream, wasText := slices.Clone(s), slices.Clone(x)
		clear(b)
		other := fill(8, 25)
		again := streamed(t, c, other, 0, n)
		clear(other)
		clear(again[:cap(again)])
		if !bytes.Equal(s, wasStream) || !bytes.Equal(x, wasText) {
			t.Fatalf("%d bytes: an answer shares memory", n)
		}
		clear(s[:cap(s)])
		clear(x[:cap(x)])
		if !bytes.Equal(streamed(t, c, nonce, 0, n), wasStream) || !bytes.Equal(turned(t, c, nonce, 0, fill(n, 24)), wasText) {
			t.Fatalf("%d bytes: an answer is kept", n)
		}
	}
}

// R4: an answer hangs on the arguments alone, and not on what was asked before, of this cipher or of others.
func TestAlike(t *testing.T) {
	c, d, other := keyed(t, fill(32, 26)), keyed(t, fill(32, 26)), keyed(t, fill(32, 27))
	nonce := fill(8, 28)
	want := streamed(t, c, nonce, 21, 50)
	for i := range 60 {
		streamed(t, d, fill(8, i), i, i)
		turned(t, other, nonce, 60-i, fill(i, i))
		Stream(d, nonce, -i-1, 3)
		if s := streamed(t, d, nonce, 21, 50); !bytes.Equal(s, want) {
			t.Fatalf("behind %d others: %x, not %x", i, s, want)
		}
	}
	if bytes.Equal(streamed(t, other, nonce, 21, 50), want) {
		t.Error("unlike keys, and one stream")
	}
}

func BenchmarkTurn(b *testing.B) {
	c, _ := aes.New(fill(32, 1))
	nonce, l := fill(8, 2), fill(1<<16, 3)
	b.SetBytes(1 << 16)
	for b.Loop() {
		Turn(c, nonce, 5, l)
	}
}
