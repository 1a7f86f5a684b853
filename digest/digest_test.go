package digest

import (
	"bytes"
	"crypto/sha256"
	"encoding/hex"
	"math/big"
	"slices"
	"strings"
	"testing"

	"quillpress/api"
)

// fill is n bytes that differ from seed to seed and do not come round with the blocks.
func fill(n, seed int) []byte {
	b := make([]byte, n)
	v := uint32(seed)*2654435761 + 12345
	for i := range b {
		v = v*1664525 + 1013904223
		b[i] = byte(v >> 24)
	}
	return b
}

// samples are lists of bytes of all lengths up to five blocks, and some of many blocks.
func samples() [][]byte {
	l := [][]byte{nil, {}}
	for n := 1; n <= 5*64+1; n++ {
		l = append(l, fill(n, n))
	}
	for _, n := range []int{55, 56, 63, 64, 65, 119, 120, 128} {
		l = append(l, make([]byte, n), bytes.Repeat([]byte{255}, n), bytes.Repeat([]byte{128}, n))
	}
	for _, n := range []int{1000, 4095, 4096, 4097, 65535, 65536, 100003} {
		l = append(l, fill(n, n))
	}
	return l
}

// edges are the lengths about a block's end and about the place where the padding needs a block more.
func edges() []int {
	l := []int{0, 1, 2, 3, 4, 5, 31, 32, 33}
	for _, n := range []int{64, 128, 192, 256, 1024} {
		for _, off := range []int{-11, -10, -9, -8, -7, -2, -1, 0, 1, 2} {
			l = append(l, n+off)
		}
	}
	return l
}

// roomy is b with spare room of more than a block that is known.
func roomy(b []byte) []byte {
	l := bytes.Repeat([]byte{0xa5}, len(b)+150)
	copy(l, b)
	return l[:len(b)]
}

// stayed tells whether neither the bytes of b nor its spare room have changed since roomy(was).
func stayed(b, was []byte) bool {
	return bytes.Equal(b[:cap(b)], roomy(was)[:cap(b)])
}

// told holds all that a digest says against the bytes that it should have.
func told(t *testing.T, d *Digest, has []byte, what string) {
	t.Helper()
	if got, want := d.Sum(), sha256.Sum256(has); got != want {
		t.Fatalf("%s: Sum of %d bytes = %x, not %x", what, len(has), got, want)
	}
	if got := d.Len(); got != len(has) {
		t.Fatalf("%s: Len = %d, not %d", what, got, len(has))
	}
}

// put writes b, which must go well.
func put(t *testing.T, d *Digest, b []byte) {
	t.Helper()
	if e := d.Write(b); e != api.OK {
		t.Fatalf("Write of %d bytes = %d", len(b), e)
	}
}

// example is a text with its SHA-256 as it is known from elsewhere.
type example struct {
	text, sum string
}

func examples() []example {
	return []example{
		{"", "e3b0c44298fc1c149afbf4c8996fb92427ae41e4649b934ca495991b7852b855"},
		{"abc", "ba7816bf8f01cfea414140de5dae2223b00361a396177a9cb410ff61f20015ad"},
		{"abcdbcdecdefdefgefghfghighijhijkijkljklmklmnlmnomnopnopq", "248d6a61d20638b8e5c026930c3e6039a33ce45964ff2167f6ecedd419db06c1"},
		{"a", "ca978112ca1bbdcafac231b39a23dc4da786eff8147c4e72b9807785afee48bb"},
		{"The quick brown fox jumps over the lazy dog", "d7a8fbb307d7809469ca9abcb0082e4f8d5651e46d3cdb762d02d0bf37c9e592"},
		{"abcdefghbcdefghicdefghijdefghijkefghijklfghijklmghijklmnhijklmnoijklmnopjklmnopqklmnopqrlmnopqrsmnopqrstnopqrstu", "cf5b16a778af8380036ce59e7b0492370b249b11e8f07a51afac45037afee9d1"},
		{strings.Repeat("01234567", 80), "594847328451bdfa85056225462cc1d867d877fb388df0ce35f25ab5562bfbb5"},
		{strings.Repeat("a", 1000000), "cdc76e5c9914fb9281a1c7e284d73e67f1809a48a497200e046d39ccc7112cd0"},
	}
}

// primes are the first n primes, by trying all that is smaller.
func primes(n int) []int64 {
	var l []int64
	for p := int64(2); len(l) < n; p++ {
		if !slices.ContainsFunc(l, func(q int64) bool { return p%q == 0 }) {
			l = append(l, p)
		}
	}
	return l
}

// isBehindPoint tells whether v is the first 32 bits behind the point of p's root of that degree: the whole part, which is what the root begins with, is tried till it fits.
func isBehindPoint(v uint32, p, degree int64) bool {
	bound := new(big.Int).Lsh(big.NewInt(p), uint(32*degree))
	for whole := range int64(20) {
		root := big.NewInt(whole<<32 | int64(v))
		next := new(big.Int).Add(root, big.NewInt(1))
		below := root.Exp(root, big.NewInt(degree), nil).Cmp(bound) <= 0
		if below && next.Exp(next, big.NewInt(degree), nil).Cmp(bound) > 0 {
			return true
		}
	}
	return false
}

// P3.1: the numbers K and H are those of the primes' roots, the chapter's examples among them.
func TestNumbers(t *testing.T) {
	h, k := numbers()
	if k[0] != 0x428a2f98 || k[1] != 0x71374491 || k[62] != 0xbef9a3f7 || k[63] != 0xc67178f2 {
		t.Errorf("K = %x", k)
	}
	if h != [8]uint32{0x6a09e667, 0xbb67ae85, 0x3c6ef372, 0xa54ff53a, 0x510e527f, 0x9b05688c, 0x1f83d9ab, 0x5be0cd19} {
		t.Errorf("H = %x", h)
	}
	for i, p := range primes(len(k)) {
		if !isBehindPoint(k[i], p, 3) {
			t.Errorf("K%d = %x is not of %d's cube root", i, k[i], p)
		}
		if i < len(h) && !isBehindPoint(h[i], p, 2) {
			t.Errorf("H%d = %x is not of %d's square root", i, h[i], p)
		}
	}
}

// P3.1: the chapter's examples and others that are known, at once and bit by bit.
func TestExamples(t *testing.T) {
	for _, x := range examples() {
		got := Of([]byte(x.text))
		if hex.EncodeToString(got[:]) != x.sum {
			t.Errorf("Of(%.60q) = %x, not %s", x.text, got, x.sum)
		}
		d := New()
		for i := range len(x.text) {
			put(t, d, []byte{x.text[i]})
		}
		got = d.Sum()
		if hex.EncodeToString(got[:]) != x.sum || d.Len() != len(x.text) {
			t.Errorf("Sum of %.60q = %x, %d bytes", x.text, got, d.Len())
		}
	}
}

// P3.1: Of is the SHA-256 of bytes of every length, about a block's end above all.
func TestOf(t *testing.T) {
	for _, b := range samples() {
		if got, want := Of(b), sha256.Sum256(b); got != want {
			t.Errorf("Of(%d bytes) = %x, not %x", len(b), got, want)
		}
	}
}

// P3.1: each bit of the bytes counts, and so does each byte's place.
func TestEachBitCounts(t *testing.T) {
	b := fill(130, 7)
	was := Of(b)
	for i := range b {
		for bit := range 8 {
			b[i] ^= 1 << bit
			if got := Of(b); got == was || got != sha256.Sum256(b) {
				t.Fatalf("bit %d of byte %d: %x", bit, i, got)
			}
			b[i] ^= 1 << bit
		}
	}
}

// P3.1: a new digest has no bytes.
func TestNew(t *testing.T) {
	d := New()
	if d == nil {
		t.Fatal("New() = nil")
	}
	told(t, d, nil, "New")
}

// P3.1: writes of none go well and change nothing, wherever in a block they come.
func TestWriteNone(t *testing.T) {
	d := New()
	has := []byte{}
	for _, n := range []int{0, 1, 62, 1, 0, 64, 128, 55, 1} {
		put(t, d, nil)
		put(t, d, []byte{})
		told(t, d, has, "none")
		b := fill(n, n)
		has = append(has, b...)
		put(t, d, b)
		put(t, d, roomy(nil))
		told(t, d, has, "some")
	}
}

// P3.1: Sum tells, and the digest goes on as if it had not been asked; asked again it tells the same.
func TestSumGoesOn(t *testing.T) {
	for _, n := range edges() {
		b := fill(n, n)
		for _, m := range []int{0, 1, 8, 9, 55, 56, 63, 64, 65, 119, 120, 200} {
			d := New()
			put(t, d, b)
			told(t, d, b, "first")
			told(t, d, b, "again")
			more := fill(m, m+1)
			put(t, d, more)
			told(t, d, slices.Concat(b, more), "further")
		}
	}
}

// P3.1: Sum behind every single byte.
func TestSumBehindEachByte(t *testing.T) {
	b := fill(400, 3)
	d := New()
	for i := range b {
		told(t, d, b[:i], "bytes")
		put(t, d, b[i:i+1])
	}
	told(t, d, b, "bytes")
}

// P3.2: cut in two anywhere.
func TestCutInTwo(t *testing.T) {
	for _, n := range append(edges(), 300) {
		b := fill(n, n)
		for i := range n + 1 {
			d := New()
			put(t, d, b[:i])
			put(t, d, b[i:])
			told(t, d, b, "two parts")
		}
	}
}

// P3.2: cut in three anywhere.
func TestCutInThree(t *testing.T) {
	b := fill(150, 5)
	want := sha256.Sum256(b)
	for i := range len(b) + 1 {
		for j := i; j <= len(b); j++ {
			d := New()
			put(t, d, b[:i])
			put(t, d, b[i:j])
			put(t, d, b[j:])
			if got := d.Sum(); got != want || d.Len() != len(b) {
				t.Fatalf("cut at %d and %d: %x, %d bytes", i, j, got, d.Len())
			}
		}
	}
}

// P3.2: cut into parts of one length, whatever it is, and of lengths that go up and down.
func TestCutInMany(t *testing.T) {
	for _, n := range []int{63, 64, 65, 640, 1000, 4096} {
		b := fill(n, n)
		for size := 1; size <= 200; size++ {
			d := New()
			for part := range slices.Chunk(b, size) {
				put(t, d, part)
			}
			told(t, d, b, "parts")
		}
	}
	b := fill(60000, 11)
	for seed := range 20 {
		d := New()
		lengths := fill(2000, seed)
		for at, i := 0, 0; at < len(b); i++ {
			to := min(len(b), at+int(lengths[i]))
			put(t, d, b[at:to])
			told(t, d, b[:to], "parts up and down")
			at = to
		}
	}
}

// P3.1: the length in bits counts in all of its eight bytes, past 32 bits too.
func TestManyBytes(t *testing.T) {
	t.Parallel()
	part := fill(1<<20, 13)
	d, want := New(), sha256.New()
	for range 512 {
		put(t, d, part)
		want.Write(part)
	}
	put(t, d, part[:7])
	want.Write(part[:7])
	got := d.Sum()
	if !bytes.Equal(got[:], want.Sum(nil)) || d.Len() != 1<<29+7 {
		t.Errorf("%x, %d bytes", got, d.Len())
	}
}

// P3.1, R5: a digest that is nil or that New did not make takes nothing and tells noughts, however often it is asked.
func TestNoDigest(t *testing.T) {
	for name, d := range map[string]*Digest{"nil": nil, "new": new(Digest), "literal": {}} {
		for _, b := range [][]byte{nil, {}, {1}, fill(64, 1), fill(1000, 2)} {
			room := roomy(b)
			if e := d.Write(room); e != api.ErrNil {
				t.Errorf("%s: Write of %d bytes = %d", name, len(b), e)
			}
			if !stayed(room, b) {
				t.Errorf("%s: Write changed what it was handed", name)
			}
			if got := d.Sum(); got != [32]byte{} {
				t.Errorf("%s: Sum = %x", name, got)
			}
			if got := d.Len(); got != 0 {
				t.Errorf("%s: Len = %d", name, got)
			}
		}
	}
}

// R4, R5: digests do not know of one another, whichever is written to meanwhile.
func TestDigestsApart(t *testing.T) {
	var l [4]*Digest
	var has [4][]byte
	for i := range l {
		l[i] = New()
	}
	for round := range 60 {
		for i, d := range l {
			b := fill((round*(i+3)*7)%150, round+i)
			put(t, d, b)
			has[i] = append(has[i], b...)
			new(Digest).Write(b)
			Of(b)
		}
		for i, d := range l {
			told(t, d, has[i], "apart")
		}
	}
	told(t, New(), nil, "a new one behind others")
}

// R3: what is handed in stays, its spare room too.
func TestHandedInStays(t *testing.T) {
	for _, was := range samples() {
		b := roomy(was)
		Of(b)
		d := New()
		put(t, d, b)
		d.Sum()
		put(t, d, b)
		d.Sum()
		if !stayed(b, was) {
			t.Fatalf("%d bytes have changed", len(was))
		}
	}
}

// R3: what is handed in is not kept: the digest has the bytes as they were.
func TestHandedInIsNotKept(t *testing.T) {
	for _, n := range edges() {
		b := fill(n, n)
		room := roomy(b)
		d := New()
		put(t, d, room)
		clear(room[:cap(room)])
		told(t, d, b, "changed behind Write")
		put(t, d, b)
		told(t, d, slices.Concat(b, b), "further")
	}
}

// R3: what Sum has told stays, whatever comes behind, and changing it changes no digest.
func TestHandedOutStays(t *testing.T) {
	d := New()
	put(t, d, []byte("abc"))
	got := d.Sum()
	was := got
	put(t, d, []byte("def"))
	d.Sum()
	if got != was {
		t.Errorf("%x, not %x", got, was)
	}
	got = d.Sum()
	clear(got[:])
	told(t, d, []byte("abcdef"), "changed sum")
}

// R6: an empty list and none are the same.
func TestEmptyIsNone(t *testing.T) {
	if a, b := Of(nil), Of([]byte{}); a != b || a != New().Sum() {
		t.Errorf("%x, %x", a, b)
	}
}
