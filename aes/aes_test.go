package aes

import (
	"bytes"
	stdaes "crypto/aes"
	"encoding/hex"
	"slices"
	"strings"
	"testing"

	"quillpress/api"
)

// fill is n bytes that differ from seed to seed and do not come round with the blocks.
func fill(n, seed int) []byte {
	b := make([]byte, n)
	v := uint32(seed)*2654435761 + 12345
	for i := range b {
		v = v*1664525 + 1013904223
		b[i] = byte(v >> 24)
	}
	return b
}

// roomy is b with spare room that is known.
func roomy(b []byte) []byte {
	l := bytes.Repeat([]byte{0xa5}, len(b)+150)
	copy(l, b)
	return l[:len(b)]
}

// stayed tells whether neither the bytes of b nor its spare room have changed since roomy(was).
func stayed(b, was []byte) bool {
	return bytes.Equal(b[:cap(b)], roomy(was)[:cap(b)])
}

// unhex is the bytes of a text of hexadecimal digits; blanks are left out.
func unhex(t *testing.T, s string) []byte {
	t.Helper()
	b, err := hex.DecodeString(strings.ReplaceAll(s, " ", ""))
	if err != nil {
		t.Fatal(err)
	}
	return b
}

// made is a cipher of key, which must be one.
func made(t *testing.T, key []byte) *Cipher {
	t.Helper()
	c, e := New(key)
	if e != api.OK || c == nil || !c.Made() {
		t.Fatalf("New of %x = %v, %d", key, c, e)
	}
	return c
}

// encrypted is what Encrypt tells of b, which must go well.
func encrypted(t *testing.T, c *Cipher, b []byte) []byte {
	t.Helper()
	x, e := c.Encrypt(b)
	if e != api.OK || len(x) != 16 {
		t.Fatalf("Encrypt(%x) = %x, %d", b, x, e)
	}
	return x
}

// decrypted is what Decrypt tells of b, which must go well.
func decrypted(t *testing.T, c *Cipher, b []byte) []byte {
	t.Helper()
	x, e := c.Decrypt(b)
	if e != api.OK || len(x) != 16 {
		t.Fatalf("Decrypt(%x) = %x, %d", b, x, e)
	}
	return x
}

// product is a times b as long division has it, in whole numbers.
func product(a, b byte) byte {
	p := 0
	for i := range 8 {
		if b>>i&1 == 1 {
			p ^= int(a) << i
		}
	}
	for i := 14; i >= 8; i-- {
		if p>>i&1 == 1 {
			p ^= 0x11b << (i - 8)
		}
	}
	return byte(p)
}

// substitute is the chapter's Sub bit by bit, its c found by search.
func substitute(b byte) byte {
	c := 0
	for i := range 256 {
		if product(byte(i), b) == 1 {
			c = i
		}
	}
	s := byte(0)
	for i := range 8 {
		bit := 0x63 >> i
		for _, j := range []int{0, 4, 5, 6, 7} {
			bit ^= c >> ((i + j) % 8)
		}
		s |= byte(bit&1) << i
	}
	return s
}

// P5.1: the chapter's examples of bytes.
func TestBytesExamples(t *testing.T) {
	if p := Times(0x57, 0x83); p != 0xc1 {
		t.Errorf("Times(57, 83) = %x", p)
	}
	if a, b, c := Sub(0), Sub(0x53), Back(0xed); a != 0x63 || b != 0xed || c != 0x53 {
		t.Errorf("Sub(0), Sub(53), Back(ed) = %x, %x, %x", a, b, c)
	}
}

// P5.1: Times of all bytes, held against long division.
func TestTimes(t *testing.T) {
	for a := range 256 {
		for b := range 256 {
			if p, q := Times(byte(a), byte(b)), product(byte(a), byte(b)); p != q {
				t.Fatalf("Times(%x, %x) = %x, not %x", a, b, p, q)
			}
		}
	}
}

// P5.1: Sub and Back of all bytes, held against the chapter's words.
func TestSubBack(t *testing.T) {
	for i := range 256 {
		b := byte(i)
		s := substitute(b)
		if x := Sub(b); x != s {
			t.Errorf("Sub(%x) = %x, not %x", b, x, s)
		}
		if x := Back(s); x != b {
			t.Errorf("Back(%x) = %x, not %x", s, x, b)
		}
	}
}

// P5.2: Times is a field's multiplication: order, grouping, sums, one, nought, and what times b is 1.
func TestField(t *testing.T) {
	for i := range 256 {
		a := byte(i)
		if Times(a, 1) != a || Times(1, a) != a || Times(a, 0) != 0 || Times(0, a) != 0 {
			t.Errorf("%x by 1 or by 0", a)
		}
		ones := 0
		for j := range 256 {
			b := byte(j)
			if Times(a, b) != Times(b, a) {
				t.Fatalf("order of %x, %x", a, b)
			}
			if Times(a, b) == 1 {
				ones++
			}
			for k := 0; k < 256; k += 5 {
				c := byte(k)
				if Times(Times(a, b), c) != Times(a, Times(b, c)) {
					t.Fatalf("grouping of %x, %x, %x", a, b, c)
				}
				if Times(a, b^c) != Times(a, b)^Times(a, c) || Times(b^c, a) != Times(b, a)^Times(c, a) {
					t.Fatalf("sums of %x, %x, %x", a, b, c)
				}
			}
		}
		if a == 0 && ones != 0 || a != 0 && ones != 1 {
			t.Errorf("%d bytes times %x are 1", ones, a)
		}
	}
}

// P5.1: the chapter's example, and those of FIPS 197 and SP 800-38A.
func TestKnownBlocks(t *testing.T) {
	long := "603deb1015ca71be2b73aef0857d7781 1f352c073b6108d72d9810a30914dff4"
	for _, x := range []struct{ key, plain, want string }{
		{"000102030405060708090a0b0c0d0e0f 101112131415161718191a1b1c1d1e1f", "00112233445566778899aabbccddeeff", "8ea2b7ca516745bfeafc49904b496089"},
		{long, "6bc1bee22e409f96e93d7e117393172a", "f3eed1bdb5d2a03c064b5a7e3db181f8"},
		{long, "ae2d8a571e03ac9c9eb76fac45af8e51", "591ccb10d410ed26dc5ba74a31362870"},
		{long, "30c81c46a35ce411e5fbc1191a0a52ef", "b6ed21b99ca6f4f9f153e7b1beafed1d"},
		{long, "f69f2445df4f9b17ad2b417be66c3710", "23304b7a39f9f3ff067d8d8f9e24ecc7"},
	} {
		c := made(t, unhex(t, x.key))
		plain, want := unhex(t, x.plain), unhex(t, x.want)
		if b := encrypted(t, c, plain); !bytes.Equal(b, want) {
			t.Errorf("Encrypt(%x) = %x, not %x", plain, b, want)
		}
		if b := decrypted(t, c, want); !bytes.Equal(b, plain) {
			t.Errorf("Decrypt(%x) = %x, not %x", want, b, plain)
		}
	}
}

// P5.1: the words of a key, by FIPS 197, appendix A.3, at the ends of each of its kinds.
func TestKeyWords(t *testing.T) {
	c := made(t, unhex(t, "603deb1015ca71be2b73aef0857d7781 1f352c073b6108d72d9810a30914dff4"))
	for i, want := range map[int]string{0: "603deb10", 7: "0914dff4", 8: "9ba35411", 11: "2067fcde", 12: "a8b09c1a", 15: "b75d5b9a", 59: "706c631e"} {
		if w := hex.EncodeToString(c.keys[4*i : 4*i+4]); w != want {
			t.Errorf("word %d is %s, not %s", i, w, want)
		}
	}
}

// P5.1: blocks under many keys, each bit of key and block by itself among them, held against the library's AES.
func TestAgainstLibrary(t *testing.T) {
	check := func(key, b []byte) {
		t.Helper()
		c := made(t, key)
		k, err := stdaes.NewCipher(key)
		if err != nil {
			t.Fatal(err)
		}
		x, y := make([]byte, 16), make([]byte, 16)
		k.Encrypt(x, b)
		k.Decrypt(y, b)
		if e := encrypted(t, c, b); !bytes.Equal(e, x) {
			t.Fatalf("key %x: Encrypt(%x) = %x, not %x", key, b, e, x)
		}
		if d := decrypted(t, c, b); !bytes.Equal(d, y) {
			t.Fatalf("key %x: Decrypt(%x) = %x, not %x", key, b, d, y)
		}
	}
	for i := range 256 {
		key := make([]byte, 32)
		key[i/8] = 1 << (i % 8)
		check(key, make([]byte, 16))
		check(bytes.Repeat([]byte{byte(i)}, 32), bytes.Repeat([]byte{byte(i)}, 16))
	}
	for i := range 128 {
		b := make([]byte, 16)
		b[i/8] = 1 << (i % 8)
		check(make([]byte, 32), b)
	}
	for i := range 300 {
		check(fill(32, i), fill(16, i+1000))
	}
}

// P5.2: each undoes the other, and unlike blocks have unlike answers.
func TestUndone(t *testing.T) {
	for k := range 4 {
		c := made(t, fill(32, 70+k))
		there, back := map[string]bool{}, map[string]bool{}
		for i := range 500 {
			b := fill(16, 100*k+i)
			x, y := encrypted(t, c, b), decrypted(t, c, b)
			if z := decrypted(t, c, x); !bytes.Equal(z, b) {
				t.Errorf("Decrypt of Encrypt(%x) = %x", b, z)
			}
			if z := encrypted(t, c, y); !bytes.Equal(z, b) {
				t.Errorf("Encrypt of Decrypt(%x) = %x", b, z)
			}
			there[string(x)], back[string(y)] = true, true
		}
		if len(there) != 500 || len(back) != 500 {
			t.Errorf("of 500 blocks %d encrypted, %d decrypted", len(there), len(back))
		}
	}
}

// P5.1: keys of all lengths but 32 are refused.
func TestNewRefused(t *testing.T) {
	for _, n := range []int{0, 1, 15, 16, 17, 24, 31, 33, 48, 64, 65536 + 32} {
		if c, e := New(make([]byte, n)); c != nil || e != api.ErrArg {
			t.Errorf("New of %d bytes = %v, %d", n, c, e)
		}
	}
	if c, e := New(nil); c != nil || e != api.ErrArg {
		t.Errorf("New(nil) = %v, %d", c, e)
	}
	if c, e := New(make([]byte, 31, 64)); c != nil || e != api.ErrArg {
		t.Errorf("New of 31 bytes with room behind = %v, %d", c, e)
	}
}

// P5.1: blocks of all lengths but 16 are refused.
func TestBlocksRefused(t *testing.T) {
	c := made(t, fill(32, 1))
	for n := range 70 {
		b := make([]byte, n, 80)
		want := api.ErrArg
		if n == 16 {
			want = api.OK
		}
		if x, e := c.Encrypt(b); e != want || e != api.OK && x != nil {
			t.Errorf("Encrypt of %d bytes = %x, %d", n, x, e)
		}
		if x, e := c.Decrypt(b); e != want || e != api.OK && x != nil {
			t.Errorf("Decrypt of %d bytes = %x, %d", n, x, e)
		}
	}
	if x, e := c.Encrypt(nil); x != nil || e != api.ErrArg {
		t.Errorf("Encrypt(nil) = %x, %d", x, e)
	}
	if x, e := c.Decrypt(nil); x != nil || e != api.ErrArg {
		t.Errorf("Decrypt(nil) = %x, %d", x, e)
	}
}

// P5.1, R5: what is no cipher says so, ahead of what it is handed.
func TestNoCipher(t *testing.T) {
	for _, c := range []*Cipher{nil, {}, new(Cipher)} {
		if c.Made() {
			t.Error("made")
		}
		for _, b := range [][]byte{nil, make([]byte, 15), make([]byte, 16)} {
			if x, e := c.Encrypt(b); x != nil || e != api.ErrNil {
				t.Errorf("Encrypt = %x, %d", x, e)
			}
			if x, e := c.Decrypt(b); x != nil || e != api.ErrNil {
				t.Errorf("Decrypt = %x, %d", x, e)
			}
		}
	}
}

// R3: what is handed in stays as it is, spare room too, and isn't kept; what is handed out is new.
func TestHanded(t *testing.T) {
	was, plain := fill(32, 3), fill(16, 4)
	key, b := roomy(was), roomy(plain)
	c := made(t, key)
	x := encrypted(t, c, b)
	y := decrypted(t, c, b)
	if !stayed(key, was) || !stayed(b, plain) {
		t.Error("what was handed in has changed")
	}
	first, second := slices.Clone(x), slices.Clone(y)
	for _, l := range [][]byte{key, b} {
		clear(l[:cap(l)])
	}
	if !bytes.Equal(x, first) || !bytes.Equal(y, second) {
		t.Error("an answer shares memory with an argument")
	}
	again, back := encrypted(t, c, plain), decrypted(t, c, plain)
	if !bytes.Equal(again, first) || !bytes.Equal(back, second) {
		t.Error("the key is kept as it was handed in")
	}
	for _, l := range [][]byte{x, y, again} {
		clear(l[:cap(l)])
	}
	if !bytes.Equal(back, second) || !bytes.Equal(encrypted(t, c, plain), first) || !bytes.Equal(decrypted(t, c, plain), second) {
		t.Error("answers share memory")
	}
}

// R4: an answer hangs on key and block alone, and not on what other ciphers or calls did.
func TestAlike(t *testing.T) {
	b := fill(16, 9)
	c, d, other := made(t, fill(32, 7)), made(t, fill(32, 7)), made(t, fill(32, 8))
	x := encrypted(t, c, b)
	for i := range 50 {
		encrypted(t, other, fill(16, i))
		decrypted(t, d, fill(16, i))
		if _, e := d.Encrypt(b[:3]); e != api.ErrArg {
			t.Fatal(e)
		}
	}
	if !bytes.Equal(encrypted(t, d, b), x) || bytes.Equal(encrypted(t, other, b), x) {
		t.Error("the same block under the same key")
	}
}

func BenchmarkEncrypt(b *testing.B) {
	c, _ := New(fill(32, 1))
	l := fill(16, 2)
	b.SetBytes(16)
	for b.Loop() {
		c.Encrypt(l)
	}
}
