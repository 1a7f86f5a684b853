package crypt

import (
	"bytes"
	"crypto/aes"
	"crypto/cipher"
	"crypto/pbkdf2"
	"crypto/sha256"
	"math"
	"math/rand"
	"testing"

	"quillpress/api"
	"quillpress/disk"
)

// fill is n bytes that differ from seed to seed.
func fill(n, seed int) []byte {
	b := make([]byte, n)
	v := uint32(seed)*2654435761 + 12345
	for i := range b {
		v = v*1664525 + 1013904223
		b[i] = byte(v >> 24)
	}
	return b
}

// roomy is b with spare room that is known.
func roomy(b []byte) []byte {
	l := bytes.Repeat([]byte{0xa5}, len(b)+150)
	copy(l, b)
	return l[:len(b)]
}

// stayed tells whether neither the bytes of b nor its spare room have changed since roomy(was).
func stayed(b, was []byte) bool {
	return bytes.Equal(b[:cap(b)], roomy(was)[:cap(b)])
}

// fresh is a new disk, which must go well.
func fresh(t *testing.T, most int) *disk.Disk {
	t.Helper()
	return loaded(t, most, nil)
}

// loaded is a disk with b, which must go well.
func loaded(t *testing.T, most int, b []byte) *disk.Disk {
	t.Helper()
	d, e := disk.Load(most, b)
	if d == nil || e != api.OK {
		t.Fatalf("Load(%d, %d bytes) = %v, %d", most, len(b), d, e)
	}
	return d
}

// created is a new file on d, which must go well.
func created(t *testing.T, d *disk.Disk, password string, salt []byte) *File {
	t.Helper()
	f, e := Create(d, []byte(password), salt)
	if f == nil || e != api.OK {
		t.Fatalf("Create = %v, %d", f, e)
	}
	return f
}

// opened is the file on d, which must go well.
func opened(t *testing.T, d *disk.Disk, password string) *File {
	t.Helper()
	f, e := Open(d, []byte(password))
	if f == nil || e != api.OK {
		t.Fatalf("Open = %v, %d", f, e)
	}
	return f
}

// well fails the test at the first of some answers that is not OK.
func well(t *testing.T, answers ...api.Errno) {
	t.Helper()
	for i, e := range answers {
		if e != api.OK {
			t.Fatalf("answer %d of %d: %d", i+1, len(answers), e)
		}
	}
}

// is fails the test unless an answer is the one that is asked.
func is(t *testing.T, what string, got, want api.Errno) {
	t.Helper()
	if got != want {
		t.Fatalf("%s: %d, not %d", what, got, want)
	}
}

// reads fails the test unless the file has these bytes at that place.
func reads(t *testing.T, f *File, at int, want string) {
	t.Helper()
	b, e := f.ReadAt(at, len(want))
	if e != api.OK || string(b) != want {
		t.Fatalf("ReadAt(%d, %d) = %.60q, %d; not %.60q", at, len(want), b, e, want)
	}
}

// streamOf is the first n bytes of the stream of a password and a salt, as the library makes it.
func streamOf(t *testing.T, password string, salt []byte, n int) []byte {
	t.Helper()
	key, err := pbkdf2.Key(sha256.New, password, salt, 4, 32)
	if err != nil {
		t.Fatal(err)
	}
	c, err := aes.NewCipher(key)
	if err != nil {
		t.Fatal(err)
	}
	out := make([]byte, n)
	cipher.NewCTR(c, append(bytes.Clone(salt[:8]), make([]byte, 8)...)).XORKeyStream(out, out)
	return out
}

// xored is a, each byte xor b's.
func xored(a, b []byte) []byte {
	out := bytes.Clone(a)
	for i := range out {
		out[i] ^= b[i]
	}
	return out
}

// The chapter's examples.
func TestExamples(t *testing.T) {
	d := fresh(t, 1000)
	f := created(t, d, "", nil)
	well(t, f.Append([]byte("abc")))
	if string(d.Image()) != "abc" {
		t.Errorf("%x", d.Image())
	}

	d = fresh(t, 1000)
	salt := make([]byte, 32)
	f = created(t, d, "p", salt)
	well(t, f.Append([]byte("abc")))
	want := append(make([]byte, 32), xored([]byte("abc"), streamOf(t, "p", salt, 35)[32:])...)
	if !bytes.Equal(d.Image(), want) || f.Size() != 3 {
		t.Errorf("%x of %d, not %x", d.Image(), f.Size(), want)
	}
	reads(t, f, 0, "abc")
	reads(t, opened(t, d, "p"), 0, "abc")
	other, e := opened(t, d, "q").ReadAt(0, 3)
	if e != api.OK || len(other) != 3 || string(other) == "abc" {
		t.Errorf("another password: %x, %d", other, e)
	}
	_, e = Create(d, nil, nil)
	is(t, "a disk that has bytes", e, api.ErrState)
}

// P8.1: both empty, or a password and 32 bytes of salt; of the rest ErrArg, with nothing put on the disk.
func TestCreateAsks(t *testing.T) {
	for p := range 3 {
		for s := range 66 {
			d := fresh(t, 1000)
			f, e := Create(d, fill(p, 1), fill(s, 2))
			if p == 0 && s == 0 || p > 0 && s == 32 {
				if f == nil || e != api.OK || f.Plain() != (p == 0) || f.Size() != 0 || d.Size() != s || d.Synced() != s {
					t.Errorf("password of %d, salt of %d: %v, %d; disk %d, synced %d", p, s, f, e, d.Size(), d.Synced())
				}
			} else if f != nil || e != api.ErrArg || d.Size() != 0 {
				t.Errorf("password of %d, salt of %d: %v, %d; disk %d", p, s, f, e, d.Size())
			}
		}
	}
}

// P8.1, R6: an empty password and salt are as none.
func TestEmptyIsNone(t *testing.T) {
	for _, none := range [][]byte{nil, {}, roomy(nil)} {
		d := fresh(t, 10)
		f, e := Create(d, none, none)
		if e != api.OK || !f.Plain() || d.Size() != 0 {
			t.Errorf("Create: %v, %d", f, e)
		}
		f, e = Open(d, none)
		if e != api.OK || !f.Plain() {
			t.Errorf("Open: %v, %d", f, e)
		}
		_, e = Create(d, none, make([]byte, 32))
		is(t, "a salt and no password", e, api.ErrArg)
		_, e = Create(d, []byte("p"), none)
		is(t, "a password and no salt", e, api.ErrArg)
		well(t, f.Append(none))
		if f.Size() != 0 {
			t.Errorf("size %d", f.Size())
		}
	}
}

// P8.1: ErrNil comes first, ErrState next, then ErrArg, then the disk's.
func TestCreateOrder(t *testing.T) {
	copied := *fresh(t, 100)
	for _, none := range []*disk.Disk{nil, {}, &copied} {
		for _, salt := range [][]byte{nil, fill(32, 1), fill(31, 1)} {
			f, e := Create(none, []byte("p"), salt)
			if f != nil || e != api.ErrNil {
				t.Errorf("no disk: %v, %d", f, e)
			}
		}
	}
	d := loaded(t, 100, []byte("x"))
	well(t, d.Arm(0))
	for _, salt := range [][]byte{nil, fill(32, 1), fill(31, 1)} {
		f, e := Create(d, []byte("p"), salt)
		if f != nil || e != api.ErrState || d.Down() {
			t.Errorf("a disk with bytes: %v, %d, %v", f, e, d.Down())
		}
	}
	d = fresh(t, 100)
	well(t, d.Arm(0))
	f, e := Create(d, []byte("p"), fill(31, 1))
	if f != nil || e != api.ErrArg || d.Down() {
		t.Errorf("a salt of 31 bytes: %v, %d, %v", f, e, d.Down())
	}
	f, e = Create(d, []byte("p"), fill(32, 1))
	if f != nil || e != api.ErrDown || !d.Down() {
		t.Errorf("a disk that goes down: %v, %d, %v", f, e, d.Down())
	}
}

// P8.1: with a password two operations, the salt's Append and the Sync; the first error is the error, and what was appended by then stays.
func TestCreateFails(t *testing.T) {
	salt := fill(32, 3)
	for _, c := range []struct {
		most, arm, fail int
		error           api.Errno
		want            api.Errno
		size            int
	}{
		{31, -1, 0, 0, api.ErrFull, 0},
		{32, -1, 0, 0, api.OK, 32},
		{90, 0, 0, 0, api.ErrDown, 0},
		{90, 1, 0, 0, api.ErrDown, 32},
		{90, 2, 0, 0, api.OK, 32},
		{90, -1, 1, api.ErrIO, api.ErrIO, 0},
		{90, -1, 1, api.ErrFull, api.ErrFull, 0},
		{90, -1, 2, api.ErrIO, api.ErrIO, 32},
		{90, -1, 2, api.ErrFull, api.ErrFull, 32},
		{90, -1, 3, api.ErrIO, api.OK, 32},
	} {
		d := fresh(t, c.most)
		if c.arm >= 0 {
			well(t, d.Arm(c.arm))
		}
		if c.fail > 0 {
			well(t, d.Fail(c.fail, c.error))
		}
		f, e := Create(d, []byte("p"), salt)
		if e != c.want || (f != nil) != (e == api.OK) || !bytes.Equal(d.Image(), salt[:c.size]) {
			t.Errorf("%+v: %v, %d, disk %x", c, f, e, d.Image())
		}
		if synced := d.Synced() == 32; synced != (e == api.OK) {
			t.Errorf("%+v: synced %d", c, d.Synced())
		}
		if c.want != api.OK {
			continue
		}
		// The third operation is the file's own.
		switch e := f.Sync(); {
		case c.arm == 2:
			is(t, "armed with 2", e, api.ErrDown)
		case c.fail == 3:
			is(t, "failing at the third", e, c.error)
		default:
			is(t, "Sync", e, api.OK)
		}
	}
}

// P8.1: what is plain is made without an operation, be the disk down or not.
func TestPlainAsksNothing(t *testing.T) {
	d := fresh(t, 10)
	well(t, d.Arm(0), d.Fail(1, api.ErrIO))
	created(t, d, "", nil)
	opened(t, d, "")
	if d.Down() {
		t.Error("down")
	}
	is(t, "Sync", d.Sync(), api.ErrDown)
	f := created(t, d, "", nil)
	g := opened(t, d, "")
	is(t, "Append", f.Append(nil), api.ErrDown)
	is(t, "Append", g.Append(nil), api.ErrDown)
	d = loaded(t, 100, []byte("some"))
	reads(t, opened(t, d, ""), 1, "om")
}

// P8.1: asking whether there is a disk changes nothing of it.
func TestAskingChangesNothing(t *testing.T) {
	d := loaded(t, 100, fill(40, 1))
	well(t, d.Append([]byte("z")), d.Arm(3), d.Fail(2, api.ErrIO))
	_, e := Create(d, nil, nil)
	is(t, "Create", e, api.ErrState)
	opened(t, d, "")
	well(t, d.Append([]byte("y")))
	is(t, "the second", d.Sync(), api.ErrIO)
	well(t, d.Sync())
	is(t, "the fourth", d.Sync(), api.ErrDown)
	_, e = Create(d, nil, nil)
	is(t, "Create, down", e, api.ErrState)
	if !d.Down() || d.Size() != 42 {
		t.Error(d.Down(), d.Size())
	}
}

// P8.1: Open's errors in their order; the salt is read by one operation.
func TestOpenOrder(t *testing.T) {
	copied := *loaded(t, 100, fill(50, 1))
	for _, none := range []*disk.Disk{nil, {}, &copied} {
		for _, p := range []string{"", "p"} {
			f, e := Open(none, []byte(p))
			if f != nil || e != api.ErrNil {
				t.Errorf("no disk: %v, %d", f, e)
			}
		}
	}
	for n := range 35 {
		d := loaded(t, 100, fill(n, 1))
		well(t, d.Arm(0))
		f, e := Open(d, []byte("p"))
		if n < 32 && (f != nil || e != api.ErrShort || d.Down()) {
			t.Errorf("%d bytes: %v, %d, %v", n, f, e, d.Down())
		}
		if n >= 32 && (f != nil || e != api.ErrDown || !d.Down()) {
			t.Errorf("%d bytes: %v, %d, %v", n, f, e, d.Down())
		}
		if g := opened(t, loaded(t, 100, fill(n, 1)), ""); !g.Plain() || g.Size() != n {
			t.Errorf("%d bytes, plain: %d", n, g.Size())
		}
		if n < 32 {
			continue
		}
		g := opened(t, loaded(t, 100, fill(n, 1)), "p")
		if g.Plain() || g.Size() != n-32 {
			t.Errorf("%d bytes: %d", n, g.Size())
		}
	}
	for _, failure := range []api.Errno{api.ErrIO, api.ErrFull} {
		d := loaded(t, 100, fill(33, 1))
		well(t, d.Fail(1, failure))
		f, e := Open(d, []byte("p"))
		if f != nil || e != failure {
			t.Errorf("%v, %d", f, e)
		}
		well(t, d.Fail(2, failure))
		g := opened(t, d, "p")
		is(t, "the second operation", g.Sync(), failure)
	}
}

// P8.1: any bytes are opened by any password; they are what they are xor the stream of salt and password, from place 32 on.
func TestOpenAny(t *testing.T) {
	for n := 32; n < 120; n++ {
		image := fill(n, n)
		password := string(fill(1+n%90, 7))
		d := loaded(t, 200, image)
		f := opened(t, d, password)
		reads(t, f, 0, string(xored(image, streamOf(t, password, image[:32], n))[32:]))
		if !bytes.Equal(d.Image(), image) || d.Synced() != n {
			t.Error("changed by Open or ReadAt")
		}
	}
}

// P8.1: all of the salt and all of the password make the key; the first eight bytes of the salt are the nonce.
func TestKeyHangsOnAll(t *testing.T) {
	image := func(password string, salt []byte) string {
		d := fresh(t, 100)
		well(t, created(t, d, password, salt).Append(make([]byte, 40)))
		if !bytes.Equal(d.Image()[:32], salt) {
			t.Fatalf("salt: %x", d.Image()[:32])
		}
		if want := streamOf(t, password, salt, 72)[32:]; !bytes.Equal(d.Image()[32:], want) {
			t.Fatalf("%x, not %x", d.Image()[32:], want)
		}
		return string(d.Image()[32:])
	}
	seen := map[string]int{image("pass", make([]byte, 32)): 1}
	for i := range 32 {
		salt := make([]byte, 32)
		salt[i] = 1
		seen[image("pass", salt)]++
	}
	for _, password := range []string{"pasS", "Pass", "pass\x01", "pas", string(fill(64, 1)), string(fill(65, 1)), string(fill(1000, 1))} {
		seen[image(password, make([]byte, 32))]++
	}
	if len(seen) != 40 {
		t.Errorf("%d unlike, not 40", len(seen))
	}
}

// P8.2: Append, in parts of all lengths, at all places of the cipher's blocks; the file and the disk at each step.
func TestAppendAtItsPlace(t *testing.T) {
	salt := fill(32, 4)
	d, p := fresh(t, 5000), fresh(t, 5000)
	f, g := created(t, d, "secret", salt), created(t, p, "", nil)
	stream := streamOf(t, "secret", salt, 5000)
	var all []byte
	for n := range 70 {
		part := fill(n, n)
		all = append(all, part...)
		well(t, f.Append(part), g.Append(part))
		if f.Size() != len(all) || g.Size() != len(all) || d.Size() != len(all)+32 || p.Size() != len(all) {
			t.Fatalf("sizes %d %d %d %d", f.Size(), g.Size(), d.Size(), p.Size())
		}
		if !bytes.Equal(p.Image(), all) || !bytes.Equal(d.Image()[32:], xored(all, stream[32:])) || !bytes.Equal(d.Image()[:32], salt) {
			t.Fatalf("at %d", n)
		}
	}
	for at := range 80 {
		for _, n := range []int{0, 1, 15, 16, 17, 40, len(all) - at} {
			reads(t, f, at, string(all[at:at+n]))
			reads(t, g, at, string(all[at:at+n]))
		}
	}
	if d.Synced() != 32 || p.Synced() != 0 {
		t.Errorf("synced %d, %d: an Append syncs nothing", d.Synced(), p.Synced())
	}
	well(t, f.Sync(), g.Sync())
	if d.Synced() != d.Size() || p.Synced() != p.Size() {
		t.Errorf("synced %d, %d", d.Synced(), p.Synced())
	}
}

// P8.2: which places may be read, and to which sizes it may be cut, both ends of the numbers among them.
func TestPlaces(t *testing.T) {
	ends := []int{math.MinInt, math.MinInt + 1, math.MinInt + 32, -33, -32, -31, -1, 0, 1, 2, 9, 10, 11, 32, 41, 42, 43, math.MaxInt - 42, math.MaxInt - 32, math.MaxInt - 10, math.MaxInt - 1, math.MaxInt}
	for _, password := range []string{"", "p"} {
		var salt []byte
		if password != "" {
			salt = fill(32, 5)
		}
		d := fresh(t, 1000)
		f := created(t, d, password, salt)
		file := fill(10, 6)
		well(t, f.Append(file))
		for _, at := range ends {
			for _, n := range ends {
				b, e := f.ReadAt(at, n)
				if at >= 0 && n >= 0 && at <= 10 && n <= 10-at {
					if e != api.OK || !bytes.Equal(b, file[at:at+n]) {
						t.Errorf("ReadAt(%d, %d) = %x, %d", at, n, b, e)
					}
				} else if e != api.ErrArg || len(b) != 0 {
					t.Errorf("ReadAt(%d, %d) = %x, %d", at, n, b, e)
				}
			}
		}
		for _, size := range ends {
			if size >= 0 && size <= 10 {
				continue
			}
			is(t, "Truncate", f.Truncate(size), api.ErrArg)
		}
		if f.Size() != 10 {
			t.Errorf("size %d", f.Size())
		}
		for size := 10; size >= 0; size-- {
			well(t, f.Truncate(size))
			if f.Size() != size || d.Size() != size+len(salt) {
				t.Errorf("Truncate(%d): %d, %d", size, f.Size(), d.Size())
			}
			reads(t, f, 0, string(file[:size]))
			is(t, "Truncate", f.Truncate(size+1), api.ErrArg)
			_, e := f.ReadAt(0, size+1)
			is(t, "ReadAt", e, api.ErrArg)
		}
		if !bytes.HasPrefix(d.Image(), salt) {
			t.Error("the salt is gone")
		}
	}
}

// P8.2: ErrArg comes ahead of the disk's errors and is no operation; each other call is one.
func TestErrorsOrder(t *testing.T) {
	for _, password := range []string{"", "p"} {
		d := loaded(t, 60, fill(50, 1))
		f := opened(t, d, password)
		size := f.Size()
		well(t, d.Arm(0))
		refuse := func() {
			_, e := f.ReadAt(-1, 0)
			is(t, "ReadAt", e, api.ErrArg)
			_, e = f.ReadAt(0, size+1)
			is(t, "ReadAt", e, api.ErrArg)
			is(t, "Truncate", f.Truncate(-1), api.ErrArg)
			is(t, "Truncate", f.Truncate(size+1), api.ErrArg)
		}
		refuse()
		if d.Down() {
			t.Error("down by what is no operation")
		}
		down := func() {
			b, e := f.ReadAt(0, size)
			if len(b) != 0 || e != api.ErrDown {
				t.Errorf("ReadAt: %x, %d", b, e)
			}
			is(t, "Append", f.Append(fill(99, 1)), api.ErrDown)
			is(t, "Sync", f.Sync(), api.ErrDown)
			is(t, "Truncate", f.Truncate(0), api.ErrDown)
		}
		down()
		refuse()
		well(t, d.Crash(api.Crash{}))
		for _, failure := range []api.Errno{api.ErrIO, api.ErrFull} {
			failing := func() { well(t, d.Fail(1, failure)) }
			failing()
			refuse()
			b, e := f.ReadAt(0, size)
			if len(b) != 0 || e != failure {
				t.Errorf("ReadAt: %x, %d", b, e)
			}
			failing()
			is(t, "Append", f.Append([]byte("abc")), failure)
			failing()
			is(t, "Sync", f.Sync(), failure)
			failing()
			is(t, "Truncate", f.Truncate(0), failure)
			if f.Size() != size || !bytes.Equal(d.Image(), fill(50, 1)) {
				t.Error("changed by what failed")
			}
		}
		is(t, "Append", f.Append(fill(11, 1)), api.ErrFull)
		well(t, f.Append(fill(10, 1)))
		is(t, "Append", f.Append(fill(1, 1)), api.ErrFull)
		well(t, f.Append(nil))
	}
}

// P8.2: what is longer than any disk may be has the disk's own errors, in their order.
func TestAppendTooLong(t *testing.T) {
	for _, password := range []string{"", "p"} {
		d := loaded(t, api.MaxDisk, fill(32, 1))
		f := opened(t, d, password)
		long := make([]byte, api.MaxDisk+1)
		is(t, "Append", f.Append(long), api.ErrFull)
		well(t, d.Fail(1, api.ErrIO))
		is(t, "Append", f.Append(long), api.ErrIO)
		well(t, d.Arm(0))
		is(t, "Append", f.Append(long), api.ErrDown)
		if d.Size() != 32 || !d.Down() {
			t.Error(d.Size(), d.Down())
		}
		well(t, d.Crash(api.Crash{}))
		is(t, "Append", f.Append(long[:api.MaxDisk-31]), api.ErrFull)
		well(t, f.Append(long[:api.MaxDisk-32]))
		if d.Size() != api.MaxDisk {
			t.Error(d.Size())
		}
	}
}

// P8.2: the greatest file there is, encrypted to its end.
func TestGreatest(t *testing.T) {
	salt := fill(32, 8)
	d := fresh(t, api.MaxDisk)
	f := created(t, d, "p", salt)
	file := fill(api.MaxDisk-32, 9)
	well(t, f.Append(file))
	if f.Size() != len(file) || !bytes.Equal(d.Image()[32:], xored(file, streamOf(t, "p", salt, api.MaxDisk)[32:])) {
		t.Fatal("unlike")
	}
	reads(t, f, 0, string(file))
	reads(t, f, len(file)-1, string(file[len(file)-1:]))
	reads(t, f, len(file), "")
	is(t, "Append", f.Append([]byte{1}), api.ErrFull)
}

// P8.2: a disk that was cut into its salt leaves an encrypted file of 0 bytes, never less.
func TestSizeAtLeastNone(t *testing.T) {
	d := fresh(t, 100)
	f := created(t, d, "p", fill(32, 1))
	well(t, f.Append([]byte("abc")))
	for size := 34; size >= 0; size-- {
		well(t, d.Truncate(size))
		if want := max(0, size-32); f.Size() != want {
			t.Errorf("disk %d: %d, not %d", size, f.Size(), want)
		}
		_, e := f.ReadAt(0, f.Size()+1)
		is(t, "ReadAt", e, api.ErrArg)
		is(t, "Truncate", f.Truncate(f.Size()+1), api.ErrArg)
		if d.Size() != size {
			t.Error("changed")
		}
	}
	if f.Plain() {
		t.Error("plain")
	}
}

// P8.2: each byte is encrypted by the stream's at its place of the disk, also where others have put bytes or cut them off meanwhile.
func TestSharesItsDisk(t *testing.T) {
	salt := fill(32, 2)
	d := fresh(t, 200)
	f := created(t, d, "p", salt)
	g := opened(t, d, "p")
	h := opened(t, d, "")
	stream := streamOf(t, "p", salt, 200)
	well(t, f.Append([]byte("one")), g.Append([]byte("two")), d.Append(xored([]byte("six"), stream[38:])), h.Append(xored([]byte("ten"), stream[41:])))
	reads(t, f, 0, "onetwosixten")
	reads(t, g, 0, "onetwosixten")
	well(t, g.Truncate(4), f.Append([]byte("xyz")))
	reads(t, g, 0, "onetxyz")
	if h.Size() != 39 || !bytes.Equal(d.Image()[32:], xored([]byte("onetxyz"), stream[32:])) {
		t.Errorf("%x", d.Image())
	}
	// No call puts its own place above the disk's, not even when the disk has lost part of its salt.
	well(t, d.Truncate(30), f.Append(make([]byte, 10)))
	if !bytes.Equal(d.Image(), append(bytes.Clone(salt[:30]), stream[30:40]...)) {
		t.Errorf("%x", d.Image())
	}
}

// A copy of a disk is apart: its file goes on with the same stream.
func TestCopyOfDisk(t *testing.T) {
	d := fresh(t, 200)
	f := created(t, d, "p", fill(32, 2))
	well(t, f.Append([]byte("abc")))
	c := opened(t, d.Copy(), "p")
	well(t, f.Append([]byte("de")), c.Append([]byte("xyz")))
	reads(t, f, 0, "abcde")
	reads(t, c, 0, "abcxyz")
}

// P8.2: Plain tells of made files; R5: files that are none answer zeros, and ErrNil.
func TestNoFiles(t *testing.T) {
	d := loaded(t, 100, fill(50, 1))
	copied := *opened(t, d, "p")
	plain := *opened(t, d, "")
	for i, f := range []*File{nil, {}, &copied, &plain} {
		b, e := f.ReadAt(0, 1)
		c, e2 := f.ReadAt(-1, -1)
		if b != nil || e != api.ErrNil || c != nil || e2 != api.ErrNil {
			t.Errorf("%d: ReadAt: %x, %d, %d", i, b, e, e2)
		}
		is(t, "Append", f.Append([]byte("abc")), api.ErrNil)
		is(t, "Sync", f.Sync(), api.ErrNil)
		is(t, "Truncate", f.Truncate(0), api.ErrNil)
		is(t, "Truncate", f.Truncate(-1), api.ErrNil)
		if f.Size() != 0 || f.Plain() {
			t.Errorf("%d: size %d, plain %v", i, f.Size(), f.Plain())
		}
	}
	if d.Size() != 50 {
		t.Error("changed")
	}
	if !opened(t, d, "").Plain() || opened(t, d, "p").Plain() || !created(t, fresh(t, 0), "", nil).Plain() || created(t, fresh(t, 32), "p", fill(32, 1)).Plain() {
		t.Error("Plain")
	}
}

// R3: what is handed in stays, spare room too, and is not kept; what is handed out is new.
func TestHandedInAndOut(t *testing.T) {
	for _, wanted := range []string{"", "p"} {
		password, salt := roomy([]byte(wanted)), roomy(fill(32*len(wanted), 1))
		d := fresh(t, 200)
		f, e := Create(d, password, salt)
		well(t, e)
		b := roomy([]byte("some bytes"))
		well(t, f.Append(b))
		if !stayed(password, []byte(wanted)) || !stayed(salt, fill(len(salt), 1)) || !stayed(b, []byte("some bytes")) {
			t.Error("changed what was handed in")
		}
		key := roomy([]byte(wanted))
		g, e := Open(d, key)
		well(t, e)
		if !stayed(key, []byte(wanted)) {
			t.Error("Open changed its password")
		}
		for _, x := range [][]byte{password, salt, b, key} {
			x = x[:cap(x)]
			for i := range x {
				x[i] ^= 0x5a
			}
		}
		for _, x := range []*File{f, g} {
			reads(t, x, 0, "some bytes")
			one, _ := x.ReadAt(0, 5)
			two, _ := x.ReadAt(0, 5)
			for i := range one[:cap(one)] {
				one[:cap(one)][i] = 'x'
			}
			if string(two) != "some " {
				t.Errorf("answers share memory: %q", two)
			}
			reads(t, x, 0, "some bytes")
		}
		well(t, f.Append([]byte("!")))
		reads(t, g, 0, "some bytes!")
	}
}

// both is an encrypted and a plain file that are handed the same calls, each on its disk.
type both struct {
	t              *testing.T
	stream         []byte
	hidden, open   *disk.Disk
	secret, public *File
}

// same fails the test unless both files have the same bytes, and their disks so too, xor the stream.
func (b *both) same(step int, what string, one, two api.Errno) {
	b.t.Helper()
	if one != two {
		b.t.Fatalf("step %d: %s: %d, plain %d", step, what, one, two)
	}
	image := b.open.Image()
	if b.secret.Size() != b.public.Size() || b.hidden.Down() != b.open.Down() || b.hidden.Synced() != b.open.Synced()+32 {
		b.t.Fatalf("step %d: %s: unlike", step, what)
	}
	if !bytes.Equal(b.hidden.Image()[32:], xored(image, b.stream[32:])) {
		b.t.Fatalf("step %d: %s: the disks are unlike", step, what)
	}
}

// step does one call of chance on both.
func (b *both) step(i int, r *rand.Rand) {
	switch r.Intn(8) {
	case 0, 1, 2:
		part := fill(r.Intn(90), i)
		b.same(i, "Append", b.secret.Append(part), b.public.Append(part))
	case 3:
		b.same(i, "Sync", b.secret.Sync(), b.public.Sync())
	case 4:
		at, n := r.Intn(b.public.Size()+3)-1, r.Intn(60)-1
		x, e := b.secret.ReadAt(at, n)
		y, e2 := b.public.ReadAt(at, n)
		b.same(i, "ReadAt", e, e2)
		if !bytes.Equal(x, y) {
			b.t.Fatalf("step %d: %x, plain %x", i, x, y)
		}
	case 5:
		size := b.public.Size() + 1 - r.Intn(200)
		b.same(i, "Truncate", b.secret.Truncate(size), b.public.Truncate(size))
	case 6:
		n, e := 1+r.Intn(9), []api.Errno{api.ErrIO, api.ErrFull}[r.Intn(2)]
		well(b.t, b.hidden.Fail(n, e), b.open.Fail(n, e))
	case 7:
		if n := r.Intn(9); r.Intn(2) == 0 {
			well(b.t, b.hidden.Arm(n), b.open.Arm(n))
			return
		}
		c := api.Crash{Keep: r.Intn(50) - 9}
		b.same(i, "Crash", b.hidden.Crash(c), b.open.Crash(c))
		if r.Intn(2) == 0 {
			// Behind a crash neither is armed, so that reading the salt, one operation more, tells nothing.
			b.secret, b.public = opened(b.t, b.hidden, "secret"), opened(b.t, b.open, "")
			b.same(i, "Open", api.OK, api.OK)
		}
	}
}

// P8.3: an encrypted file answers as a plain one on a disk with 32 bytes more.
func TestAnswersAsPlain(t *testing.T) {
	for seed := range 60 {
		r := rand.New(rand.NewSource(int64(seed)))
		most, salt := r.Intn(1500), fill(32, seed)
		b := &both{t: t, stream: streamOf(t, "secret", salt, 2000), hidden: fresh(t, most+32), open: fresh(t, most)}
		b.secret, b.public = created(t, b.hidden, "secret", salt), created(t, b.open, "", nil)
		for i := range 400 {
			b.step(i, r)
		}
	}
}

// R4: the same calls, the same answers.
func TestSameAgain(t *testing.T) {
	run := func() []byte {
		d := fresh(t, 500)
		f := created(t, d, "word", fill(32, 1))
		well(t, f.Append(fill(100, 2)), f.Truncate(50), f.Append(fill(60, 3)))
		return d.Image()
	}
	if !bytes.Equal(run(), run()) {
		t.Error("unlike")
	}
}
