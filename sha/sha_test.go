package sha

import (
	"bytes"
	"crypto/sha1"
	"encoding/hex"
	"slices"
	"strings"
	"testing"

	"quillpress/api"
)

// fill is n bytes that differ from seed to seed and do not come round with the blocks.
func fill(n, seed int) []byte {
	b := make([]byte, n)
	v := uint32(seed)*2654435761 + 12345
	for i := range b {
		v = v*1664525 + 1013904223
		b[i] = byte(v >> 24)
	}
	return b
}

// samples are lists of bytes of all lengths up to five blocks, and some of many blocks.
func samples() [][]byte {
	l := [][]byte{nil, {}}
	for n := 1; n <= 5*64+1; n++ {
		l = append(l, fill(n, n))
	}
	for _, n := range []int{55, 56, 63, 64, 65, 119, 120, 128} {
		l = append(l, make([]byte, n), bytes.Repeat([]byte{255}, n), bytes.Repeat([]byte{128}, n))
	}
	for _, n := range []int{1000, 4095, 4096, 4097, 65535, 65536, 100003} {
		l = append(l, fill(n, n))
	}
	return l
}

// edges are the lengths about a block's end and about the place where the padding needs a block more.
func edges() []int {
	l := []int{0, 1, 2, 3, 4, 5, 31, 32, 33}
	for _, n := range []int{64, 128, 192, 256, 1024} {
		for _, off := range []int{-11, -10, -9, -8, -7, -2, -1, 0, 1, 2} {
			l = append(l, n+off)
		}
	}
	return l
}

// roomy is b with spare room of more than a block that is known.
func roomy(b []byte) []byte {
	l := bytes.Repeat([]byte{0xa5}, len(b)+150)
	copy(l, b)
	return l[:len(b)]
}

// stayed tells whether neither the bytes of b nor its spare room have changed since roomy(was).
func stayed(b, was []byte) bool {
	return bytes.Equal(b[:cap(b)], roomy(was)[:cap(b)])
}

// told holds all that a digest says against the bytes that it should have.
func told(t *testing.T, d *Digest, has []byte, what string) {
	t.Helper()
	if got, want := d.Sum(), sha1.Sum(has); got != want {
		t.Fatalf("%s: Sum of %d bytes = %x, not %x", what, len(has), got, want)
	}
	if got := d.Len(); got != len(has) {
		t.Fatalf("%s: Len = %d, not %d", what, got, len(has))
	}
}

// put writes b, which must go well.
func put(t *testing.T, d *Digest, b []byte) {
	t.Helper()
	if e := d.Write(b); e != api.OK {
		t.Fatalf("Write of %d bytes = %d", len(b), e)
	}
}

// example is a text with its SHA-1 as it is known from elsewhere.
type example struct {
	text, sum string
}

func examples() []example {
	return []example{
		{"", "da39a3ee5e6b4b0d3255bfef95601890afd80709"},
		{"abc", "a9993e364706816aba3e25717850c26c9cd0d89d"},
		{"abcdbcdecdefdefgefghfghighijhijkijkljklmklmnlmnomnopnopq", "84983e441c3bd26ebaae4aa1f95129e5e54670f1"},
		{"a", "86f7e437faa5a7fce15d1ddcb9eaeaea377667b8"},
		{"The quick brown fox jumps over the lazy dog", "2fd4e1c67a2d28fced849ee1bb76e7391b93eb12"},
		{"abcdefghbcdefghicdefghijdefghijkefghijklfghijklmghijklmnhijklmnoijklmnopjklmnopqklmnopqrlmnopqrsmnopqrstnopqrstu", "a49b2446a02c645bf419f995b67091253a04a259"},
		{strings.Repeat("01234567", 80), "dea356a2cddd90c7a7ecedc5ebb563934f460452"},
		{strings.Repeat("a", 1000000), "34aa973cd4c4daa4f61eeb2bdbad27316534016f"},
	}
}

// P2.1: the chapter's examples and others that are known, at once and bit by bit.
func TestExamples(t *testing.T) {
	for _, x := range examples() {
		got := Of([]byte(x.text))
		if hex.EncodeToString(got[:]) != x.sum {
			t.Errorf("Of(%.60q) = %x, not %s", x.text, got, x.sum)
		}
		d := New()
		for i := range len(x.text) {
			put(t, d, []byte{x.text[i]})
		}
		got = d.Sum()
		if hex.EncodeToString(got[:]) != x.sum || d.Len() != len(x.text) {
			t.Errorf("Sum of %.60q = %x, %d bytes", x.text, got, d.Len())
		}
	}
}

// P2.1: Of is the SHA-1 of bytes of every length, about a block's end above all.
func TestOf(t *testing.T) {
	for _, b := range samples() {
		if got, want := Of(b), sha1.Sum(b); got != want {
			t.Errorf("Of(%d bytes) = %x, not %x", len(b), got, want)
		}
	}
}

// P2.1: each bit of the bytes counts, and so does each byte's place.
func TestEachBitCounts(t *testing.T) {
	b := fill(130, 7)
	was := Of(b)
	for i := range b {
		for bit := range 8 {
			b[i] ^= 1 << bit
			if got := Of(b); got == was || got != sha1.Sum(b) {
				t.Fatalf("bit %d of byte %d: %x", bit, i, got)
			}
			b[i] ^= 1 << bit
		}
	}
}

// P2.1: a new digest has no bytes.
func TestNew(t *testing.T) {
	d := New()
	if d == nil {
		t.Fatal("New() = nil")
	}
	told(t, d, nil, "New")
}

// P2.1: writes of none go well and change nothing, wherever in a block they come.
func TestWriteNone(t *testing.T) {
	d := New()
	has := []byte{}
	for _, n := range []int{0, 1, 62, 1, 0, 64, 128, 55, 1} {
		put(t, d, nil)
		put(t, d, []byte{})
		told(t, d, has, "none")
		b := fill(n, n)
		has = append(has, b...)
		put(t, d, b)
		put(t, d, roomy(nil))
		told(t, d, has, "some")
	}
}

// P2.1: Sum tells, and the digest goes on as if it had not been asked; asked again it tells the same.
func TestSumGoesOn(t *testing.T) {
	for _, n := range edges() {
		b := fill(n, n)
		for _, m := range []int{0, 1, 8, 9, 55, 56, 63, 64, 65, 119, 120, 200} {
			d := New()
			put(t, d, b)
			told(t, d, b, "first")
			told(t, d, b, "again")
			more := fill(m, m+1)
			put(t, d, more)
			told(t, d, slices.Concat(b, more), "further")
		}
	}
}

// P2.1: Sum behind every single byte.
func TestSumBehindEachByte(t *testing.T) {
	b := fill(400, 3)
	d := New()
	for i := range b {
		told(t, d, b[:i], "bytes")
		put(t, d, b[i:i+1])
	}
	told(t, d, b, "bytes")
}

// P2.2: cut in two anywhere.
func TestCutInTwo(t *testing.T) {
	for _, n := range append(edges(), 300) {
		b := fill(n, n)
		for i := range n + 1 {
			d := New()
			put(t, d, b[:i])
			put(t, d, b[i:])
			told(t, d, b, "two parts")
		}
	}
}

// P2.2: cut in three anywhere.
func TestCutInThree(t *testing.T) {
	b := fill(150, 5)
	want := sha1.Sum(b)
	for i := range len(b) + 1 {
		for j := i; j <= len(b); j++ {
			d := New()
			put(t, d, b[:i])
			put(t, d, b[i:j])
			put(t, d, b[j:])
			if got := d.Sum(); got != want || d.Len() != len(b) {
				t.Fatalf("cut at %d and %d: %x, %d bytes", i, j, got, d.Len())
			}
		}
	}
}

// P2.2: cut into parts of one length, whatever it is, and of lengths that go up and down.
func TestCutInMany(t *testing.T) {
	for _, n := range []int{63, 64, 65, 640, 1000, 4096} {
		b := fill(n, n)
		for size := 1; size <= 200; size++ {
			d := New()
			for part := range slices.Chunk(b, size) {
				put(t, d, part)
			}
			told(t, d, b, "parts")
		}
	}
	b := fill(60000, 11)
	for seed := range 20 {
		d := New()
		lengths := fill(2000, seed)
		for at, i := 0, 0; at < len(b); i++ {
			to := min(len(b), at+int(lengths[i]))
			put(t, d, b[at:to])
			told(t, d, b[:to], "parts up and down")
			at = to
		}
	}
}

// P2.1: the length in bits counts in all of its eight bytes, past 32 bits too.
func TestManyBytes(t *testing.T) {
	t.Parallel()
	part := fill(1<<20, 13)
	d, want := New(), sha1.New()
	for range 512 {
		put(t, d, part)
		want.Write(part)
	}
	put(t, d, part[:7])
	want.Write(part[:7])
	got := d.Sum()
	if !bytes.Equal(got[:], want.Sum(nil)) || d.Len() != 1<<29+7 {
		t.Errorf("%x, %d bytes", got, d.Len())
	}
}

// P2.1, R5: a digest that is nil or that New did not make takes nothing and tells noughts, however often it is asked.
func TestNoDigest(t *testing.T) {
	for name, d := range map[string]*Digest{"nil": nil, "new": new(Digest), "literal": {}} {
		for _, b := range [][]byte{nil, {}, {1}, fill(64, 1), fill(1000, 2)} {
			room := roomy(b)
			if e := d.Write(room); e != api.ErrNil {
				t.Errorf("%s: Write of %d bytes = %d", name, len(b), e)
			}
			if !stayed(room, b) {
				t.Errorf("%s: Write changed what it was handed", name)
			}
			if got := d.Sum(); got != [20]byte{} {
				t.Errorf("%s: Sum = %x", name, got)
			}
			if got := d.Len(); got != 0 {
				t.Errorf("%s: Len = %d", name, got)
			}
		}
	}
}

// R4, R5: digests do not know of one another, whichever is written to meanwhile.
func TestDigestsApart(t *testing.T) {
	var l [4]*Digest
	var has [4][]byte
	for i := range l {
		l[i] = New()
	}
	for round := range 60 {
		for i, d := range l {
			b := fill((round*(i+3)*7)%150, round+i)
			put(t, d, b)
			has[i] = append(has[i], b...)
			new(Digest).Write(b)
			Of(b)
		}
		for i, d := range l {
			told(t, d, has[i], "apart")
		}
	}
	told(t, New(), nil, "a new one behind others")
}

// R3: what is handed in stays, its spare room too.
func TestHandedInStays(t *testing.T) {
	for _, was := range samples() {
		b := roomy(was)
		Of(b)
		d := New()
		put(t, d, b)
		d.Sum()
		put(t, d, b)
		d.Sum()
		if !stayed(b, was) {
			t.Fatalf("%d bytes have changed", len(was))
		}
	}
}

// R3: what is handed in is not kept: the digest has the bytes as they were.
func TestHandedInIsNotKept(t *testing.T) {
	for _, n := range edges() {
		b := fill(n, n)
		room := roomy(b)
		d := New()
		put(t, d, room)
		clear(room[:cap(room)])
		told(t, d, b, "changed behind Write")
		put(t, d, b)
		told(t, d, slices.Concat(b, b), "further")
	}
}

// R3: what Sum has told stays, whatever comes behind, and changing it changes no digest.
func TestHandedOutStays(t *testing.T) {
	d := New()
	put(t, d, []byte("abc"))
	got := d.Sum()
	was := got
	put(t, d, []byte("def"))
	d.Sum()
	if got != was {
		t.Errorf("%x, not %x", got, was)
	}
	got = d.Sum()
	clear(got[:])
	told(t, d, []byte("abcdef"), "changed sum")
}

// R6: an empty list and none are the same.
func TestEmptyIsNone(t *testing.T) {
	if a, b := Of(nil), Of([]byte{}); a != b || a != New().Sum() {
		t.Errorf("%x, %x", a, b)
	}
}
