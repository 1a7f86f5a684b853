package derive

import (
	"bytes"
	"crypto/hmac"
	"crypto/pbkdf2"
	"crypto/sha256"
	"encoding/hex"
	"math"
	"slices"
	"strings"
	"testing"

	"quillpress/api"
)

// fill is n bytes that differ from seed to seed and do not come round with the blocks.
func fill(n, seed int) []byte {
	b := make([]byte, n)
	v := uint32(seed)*2654435761 + 12345
	for i := range b {
		v = v*1664525 + 1013904223
		b[i] = byte(v >> 24)
	}
	return b
}

// roomy is b with spare room that is known.
func roomy(b []byte) []byte {
	l := bytes.Repeat([]byte{0xa5}, len(b)+150)
	copy(l, b)
	return l[:len(b)]
}

// stayed tells whether neither the bytes of b nor its spare room have changed since roomy(was).
func stayed(b, was []byte) bool {
	return bytes.Equal(b[:cap(b)], roomy(was)[:cap(b)])
}

// unhex is the bytes of a text of hexadecimal digits; blanks are left out.
func unhex(t *testing.T, s string) []byte {
	t.Helper()
	b, err := hex.DecodeString(strings.ReplaceAll(s, " ", ""))
	if err != nil {
		t.Fatal(err)
	}
	return b
}

// known is the HMAC as the library has it.
func known(key, b []byte) [32]byte {
	h := hmac.New(sha256.New, key)
	h.Write(b)
	return [32]byte(h.Sum(nil))
}

// knownKey is the derived key as the library has it.
func knownKey(t *testing.T, password, salt []byte, rounds, n int) []byte {
	t.Helper()
	if n == 0 {
		return nil
	}
	b, err := pbkdf2.Key(sha256.New, string(password), salt, rounds, n)
	if err != nil {
		t.Fatal(err)
	}
	return b
}

// derived is what Pbkdf2 tells, which must go well.
func derived(t *testing.T, password, salt []byte, rounds, n int) []byte {
	t.Helper()
	b, e := Pbkdf2(password, salt, rounds, n)
	if e != api.OK || len(b) != n {
		t.Fatalf("Pbkdf2 with %d rounds, %d bytes = %d bytes, %d", rounds, n, len(b), e)
	}
	return b
}

// P4.1: the chapter's example of Hmac, and those of RFC 4231.
func TestHmacExamples(t *testing.T) {
	long := bytes.Repeat([]byte{0xaa}, 131)
	for _, x := range []struct {
		key, b []byte
		sum    string
	}{
		{[]byte("Jefe"), []byte("what do ya want for nothing?"), "5BDCC146 BF60754E 6A042426 089575C7 5A003F08 9D273983 9DEC58B9 64EC3843"},
		{bytes.Repeat([]byte{0x0b}, 20), []byte("Hi There"), "b0344c61d8db38535ca8afceaf0bf12b881dc200c9833da726e9376c2e32cff7"},
		{bytes.Repeat([]byte{0xaa}, 20), bytes.Repeat([]byte{0xdd}, 50), "773ea91e36800e46854db8ebd09181a72959098b3ef8c122d9635514ced565fe"},
		{unhex(t, "0102030405060708090a0b0c0d0e0f10111213141516171819"), bytes.Repeat([]byte{0xcd}, 50), "82558a389a443c0ea4cc819899f2083a85f0faa3e578f8077a2e3ff46729665b"},
		{long, []byte("Test Using Larger Than Block-Size Key - Hash Key First"), "60e431591ee0b67f0d8a26aacbf5b77f8e0bc6213728c5140546040f0ee37f54"},
		{long, []byte("This is a test using a larger than block-size key and a larger than block-size data. The key needs to be hashed before being used by the HMAC algorithm."), "9b09ffa71b942fcb27635fbcd5b0e944bfdc63644f0713938a7f51535c3a35e2"},
		{nil, nil, "b613679a0814d9ec772f95d778c35fc5ff1697c493715653c6c712144292c5ad"},
	} {
		if got := Hmac(x.key, x.b); !bytes.Equal(got[:], unhex(t, x.sum)) {
			t.Errorf("Hmac(%x, %q) = %x, not %s", x.key, x.b, got, x.sum)
		}
	}
}

// P4.1: Hmac with keys of every length about 64 bytes, and with bytes about a block's end.
func TestHmac(t *testing.T) {
	for n := range 200 {
		key := fill(n, n+1)
		for _, m := range []int{0, 1, 31, 32, 54, 55, 56, 63, 64, 65, 119, 120, 128, 1000} {
			b := fill(m, m+2)
			if got, want := Hmac(key, b), known(key, b); got != want {
				t.Fatalf("Hmac of a key of %d bytes and %d bytes = %x, not %x", n, m, got, want)
			}
		}
	}
	for _, n := range []int{4096, 65536, 100003} {
		if got, want := Hmac(fill(n, 1), fill(2*n, 2)), known(fill(n, 1), fill(2*n, 2)); got != want {
			t.Errorf("Hmac of a key of %d bytes = %x, not %x", n, got, want)
		}
	}
}

// P4.1: keys of noughts, and of the bytes that the masks turn into noughts.
func TestHmacOfOneByte(t *testing.T) {
	for _, c := range []byte{0, 0x36, 0x5c, 0x36 ^ 0x5c, 255} {
		for _, n := range []int{1, 63, 64, 65, 128} {
			key := bytes.Repeat([]byte{c}, n)
			if got, want := Hmac(key, key), known(key, key); got != want {
				t.Errorf("Hmac of %d bytes %x = %x, not %x", n, c, got, want)
			}
		}
	}
}

// P4.1: each bit of the key and of the bytes counts, and which of both is the key.
func TestEachBitCounts(t *testing.T) {
	for _, n := range []int{20, 64, 65} {
		key, b := fill(n, 1), fill(40, 2)
		was := Hmac(key, b)
		for _, l := range [][]byte{key, b} {
			for i := range 8 * len(l) {
				l[i/8] ^= 1 << (i % 8)
				if got := Hmac(key, b); got == was || got != known(key, b) {
					t.Fatalf("key of %d bytes, bit %d: %x", n, i, got)
				}
				l[i/8] ^= 1 << (i % 8)
			}
		}
		if Hmac(b, key) == was {
			t.Errorf("a key of %d bytes may change places with the bytes", n)
		}
	}
}

// P4.1: the chapter's examples of Pbkdf2, and others that are known.
func TestPbkdf2Examples(t *testing.T) {
	for _, x := range []struct {
		password, salt string
		rounds         int
		key            string
	}{
		{"password", "salt", 1, "120FB6CF FCF8B32C 43E72252 56C4F837 A86548C9 2CCC3548 0805987C B70BE17B"},
		{"password", "salt", 2, "AE4D0C95 AF6B46D3 2D0ADFF9 28F06DD0 2A303F8E F3C251DF D6E2D85A 95474C43"},
		{"passwd", "salt", 1, "55ac046e56e3089fec1691c22544b605f94185216dde0465e68b9d57c20dacbc49ca9cccf179b645991664b39d77ef317c71b845b1e30bd509112041d3a19783"},
	} {
		want := unhex(t, x.key)
		if got := derived(t, []byte(x.password), []byte(x.salt), x.rounds, len(want)); !bytes.Equal(got, want) {
			t.Errorf("Pbkdf2(%s, %s, %d, %d) = %x", x.password, x.salt, x.rounds, len(want), got)
		}
	}
}

// P4.1: the greatest derivation, and the rounds next to the ends, with as many bytes as are about a block's end.
func TestPbkdf2Edges(t *testing.T) {
	password, salt := []byte("pa"), fill(32, 3)
	for _, rounds := range []int{1, 2, 3, 4, 999, 1000} {
		for _, n := range []int{0, 1, 31, 32, 33, 63, 64, 65} {
			if got := derived(t, password, salt, rounds, n); !bytes.Equal(got, knownKey(t, password, salt, rounds, n)) {
				t.Errorf("%d rounds, %d bytes: %x", rounds, n, got)
			}
		}
	}
	for _, x := range [][2]int{{1, 1023}, {1, 1024}, {2, 1000}, {1000, 1024}} {
		if got := derived(t, password, salt, x[0], x[1]); !bytes.Equal(got, knownKey(t, password, salt, x[0], x[1])) {
			t.Errorf("%d rounds, %d bytes: %x", x[0], x[1], got)
		}
	}
}

// P4.1: passwords and salts of all lengths about a block's end.
func TestPbkdf2Lengths(t *testing.T) {
	for _, p := range []int{0, 1, 8, 63, 64, 65, 130} {
		for _, s := range []int{0, 1, 4, 32, 51, 52, 55, 56, 60, 63, 64, 65, 1000} {
			password, salt := fill(p, p+5), fill(s, s+6)
			if got := derived(t, password, salt, 3, 70); !bytes.Equal(got, knownKey(t, password, salt, 3, 70)) {
				t.Errorf("password of %d bytes, salt of %d: %x", p, s, got)
			}
		}
	}
}

// P4.1: each block is made as the chapter says it, from HMACs.
func TestBlocks(t *testing.T) {
	password, salt := []byte("password"), fill(16, 9)
	for _, rounds := range []int{1, 2, 5} {
		got := derived(t, password, salt, rounds, 1024)
		for i := 1; i <= 32; i++ {
			u := Hmac(password, slices.Concat(salt, []byte{0, 0, 0, byte(i)}))
			want := u
			for range rounds - 1 {
				u = Hmac(password, u[:])
				for j := range want {
					want[j] ^= u[j]
				}
			}
			if at := 32 * (i - 1); !bytes.Equal(got[at:at+32], want[:]) {
				t.Errorf("%d rounds, block %d: %x, not %x", rounds, i, got[at:at+32], want)
			}
		}
	}
}

// P4.1: a block's number counts in all of its four bytes, the highest first.
func TestBlockNumber(t *testing.T) {
	salt := []byte("salt")
	for _, i := range []uint32{1, 32, 255, 256, 0x01020304, 0xfffefdfc, math.MaxUint32} {
		got := block(firstOf([]byte("key")), salt, i, 1)
		want := known([]byte("key"), slices.Concat(salt, []byte{byte(i >> 24), byte(i >> 16), byte(i >> 8), byte(i)}))
		if got != want {
			t.Errorf("block %d: %x, not %x", i, got, want)
		}
	}
}

// P4.1, R2: rounds and numbers of bytes that may not be are refused, with no bytes; those next to them are not.
func TestRefused(t *testing.T) {
	for _, x := range [][2]int{
		{0, 32}, {-1, 32}, {1001, 32}, {math.MinInt, 32}, {math.MaxInt, 32},
		{1, -1}, {1, 1025}, {1, math.MinInt}, {1, math.MaxInt}, {1000, 1025}, {1000, -1},
		{0, 0}, {0, 1024}, {1001, 0}, {1001, 1024}, {0, -1}, {0, 1025}, {1001, 1025}, {-1, -1},
		{1 << 32, 1}, {1<<32 + 1, 1}, {1, 1 << 32}, {1, 1<<32 + 1},
	} {
		for _, b := range [][]byte{nil, []byte("salt")} {
			if got, e := Pbkdf2(b, b, x[0], x[1]); e != api.ErrArg || got != nil {
				t.Errorf("%d rounds, %d bytes: %x, %d", x[0], x[1], got, e)
			}
		}
	}
	for _, x := range [][2]int{{1, 0}, {1, 1}, {1000, 0}, {1000, 1}, {1, 1024}} {
		derived(t, nil, nil, x[0], x[1])
	}
}

// P4.2: a longer derivation begins with every shorter one.
func TestShorterOnesBegin(t *testing.T) {
	password, salt := []byte("secret"), fill(20, 4)
	whole := derived(t, password, salt, 2, 1024)
	for n := range 1025 {
		if got := derived(t, password, salt, 2, n); !bytes.Equal(got, whole[:n]) {
			t.Errorf("%d bytes: %x", n, got)
		}
	}
}

// P4.2: noughts behind a key of less than 64 bytes change nothing up to 64 bytes; past them they do.
func TestNoughtsBehindKey(t *testing.T) {
	b := []byte("bytes")
	for n := range 64 {
		key := fill(n, n+1)
		was, wasKey := Hmac(key, b), derived(t, key, b, 2, 40)
		for m := n; m <= 66; m++ {
			long := make([]byte, m)
			copy(long, key)
			same := Hmac(long, b) == was
			if same != (m <= 64) {
				t.Fatalf("a key of %d bytes and noughts up to %d: %v", n, m, same)
			}
			if m < 63 {
				continue
			}
			if same := bytes.Equal(derived(t, long, b, 2, 40), wasKey); same != (m <= 64) {
				t.Fatalf("a password of %d bytes and noughts up to %d: %v", n, m, same)
			}
		}
	}
}

// P4.2: a key of more than 64 bytes is as its SHA-256; one of 64 or less is not.
func TestLongKeyIsItsHash(t *testing.T) {
	b := []byte("bytes")
	for n := range 200 {
		key := fill(n, n+3)
		h := sha256.Sum256(key)
		if same := Hmac(key, b) == Hmac(h[:], b); same != (n > 64) {
			t.Errorf("a key of %d bytes: %v", n, same)
		}
		if same := bytes.Equal(derived(t, key, b, 2, 40), derived(t, h[:], b, 2, 40)); same != (n > 64) {
			t.Errorf("a password of %d bytes: %v", n, same)
		}
	}
}

// R3: what is handed in stays, its spare room too; be it one list that is handed in twice.
func TestHandedInStays(t *testing.T) {
	for _, n := range []int{0, 1, 32, 60, 63, 64, 65, 130, 1000} {
		was, wasToo := fill(n, 1), fill(n, 2)
		key, b := roomy(was), roomy(wasToo)
		Hmac(key, b)
		derived(t, key, b, 3, 100)
		Pbkdf2(key, b, 0, 100)
		if !stayed(key, was) || !stayed(b, wasToo) {
			t.Fatalf("%d bytes have changed", n)
		}
		if got, want := Hmac(key, key), known(was, was); got != want {
			t.Errorf("%d bytes handed in twice: %x, not %x", n, got, want)
		}
		if got, want := derived(t, key, key, 2, 100), knownKey(t, was, was, 2, 100); !bytes.Equal(got, want) {
			t.Errorf("%d bytes handed in twice: %x, not %x", n, got, want)
		}
		if !stayed(key, was) {
			t.Fatalf("%d bytes, handed in twice, have changed", n)
		}
	}
}

// R3, R4: what is handed out stays, and is new each time: changing it, its spare room too, changes no other answer.
func TestHandedOutIsNew(t *testing.T) {
	password, salt := []byte("password"), []byte("salt")
	for _, n := range []int{1, 31, 32, 33, 64, 1000} {
		want := knownKey(t, password, salt, 2, n)
		one := derived(t, password, salt, 2, n)
		two := derived(t, password, salt, 2, n)
		clear(one[:cap(one)])
		if !bytes.Equal(two, want) || !bytes.Equal(derived(t, password, salt, 2, n), want) {
			t.Errorf("%d bytes: answers share memory", n)
		}
	}
	salt[0] ^= 1
	if got := derived(t, password, salt, 2, 32); !bytes.Equal(got, knownKey(t, password, salt, 2, 32)) {
		t.Errorf("another salt in the same memory: %x", got)
	}
}

// R6: an empty list and none are the same.
func TestEmptyIsNone(t *testing.T) {
	none := []byte{}
	if Hmac(nil, nil) != Hmac(none, none) || Hmac(nil, none) != Hmac(none, nil) || Hmac(nil, nil) != Hmac(nil, none) {
		t.Error("Hmac tells empty from none")
	}
	if !bytes.Equal(derived(t, nil, nil, 2, 50), derived(t, none, none, 2, 50)) {
		t.Error("Pbkdf2 tells empty from none")
	}
}
