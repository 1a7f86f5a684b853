package disk

import (
	"bytes"
	"math"
	"math/rand"
	"slices"
	"testing"

	"quillpress/api"
)

// fill is n bytes that differ from seed to seed and do not come round with the sectors.
func fill(n, seed int) []byte {
	b := make([]byte, n)
	v := uint32(seed)*2654435761 + 12345
	for i := range b {
		v = v*1664525 + 1013904223
		b[i] = byte(v >> 24)
	}
	return b
}

// roomy is b with spare room that is known.
func roomy(b []byte) []byte {
	l := bytes.Repeat([]byte{0xa5}, len(b)+150)
	copy(l, b)
	return l[:len(b)]
}

// stayed tells whether neither the bytes of b nor its spare room have changed since roomy(was).
func stayed(b, was []byte) bool {
	return bytes.Equal(b[:cap(b)], roomy(was)[:cap(b)])
}

// fresh is a new disk, which must go well.
func fresh(t *testing.T, most int) *Disk {
	t.Helper()
	d, e := New(most)
	if d == nil || e != api.OK {
		t.Fatalf("New(%d) = %v, %d", most, d, e)
	}
	return d
}

// loaded is a disk with b, which must go well.
func loaded(t *testing.T, most int, b []byte) *Disk {
	t.Helper()
	d, e := Load(most, b)
	if d == nil || e != api.OK {
		t.Fatalf("Load(%d, %d bytes) = %v, %d", most, len(b), d, e)
	}
	return d
}

// well fails the test at the first of some answers that is not OK.
func well(t *testing.T, answers ...api.Errno) {
	t.Helper()
	for i, e := range answers {
		if e != api.OK {
			t.Fatalf("answer %d of %d: %d", i+1, len(answers), e)
		}
	}
}

// holds fails the test unless the disk has just that file and that floor.
func holds(t *testing.T, d *Disk, file string, floor int) {
	t.Helper()
	if s := string(d.Image()); s != file || d.Size() != len(file) || d.Synced() != floor {
		t.Fatalf("has %.60q of %d, size %d, floor %d; not %.60q of %d, floor %d", s, len(s), d.Size(), d.Synced(), file, len(file), floor)
	}
}

// crashed is what a crash makes of a copy.
func crashed(t *testing.T, d *Disk, keep int, junk string) string {
	t.Helper()
	c := d.Copy()
	well(t, c.Crash(api.Crash{Keep: keep, Junk: []byte(junk)}))
	return string(c.Image())
}

// model is a disk as the chapter's words have it, with the old file kept whole.
type model struct {
	most      int
	file, old []byte
	floor     int
	down      bool
	armed     bool
	arm       int
	fail      int
	failure   api.Errno
}

func (m *model) op() api.Errno {
	if m.down {
		return api.ErrDown
	}
	if m.armed {
		if m.arm == 0 {
			m.down = true
			return api.ErrDown
		}
		m.arm--
	}
	if m.fail == 1 {
		m.fail = 0
		return m.failure
	}
	if m.fail > 1 {
		m.fail--
	}
	return api.OK
}

func (m *model) append(b []byte) api.Errno {
	if e := m.op(); e != api.OK {
		return e
	}
	if len(m.file)+len(b) > m.most {
		return api.ErrFull
	}
	m.file = slices.Concat(m.file, b)
	return api.OK
}

func (m *model) sync() api.Errno {
	if e := m.op(); e != api.OK {
		return e
	}
	m.old, m.floor = slices.Clone(m.file), len(m.file)
	return api.OK
}

func (m *model) readAt(at, n int) ([]byte, api.Errno) {
	if at < 0 || n < 0 || at+n > len(m.file) {
		return nil, api.ErrArg
	}
	if e := m.op(); e != api.OK {
		return nil, e
	}
	return slices.Clone(m.file[at : at+n]), api.OK
}

func (m *model) truncate(size int) api.Errno {
	if size < 0 || size > len(m.file) {
		return api.ErrArg
	}
	if e := m.op(); e != api.OK {
		return e
	}
	m.file = slices.Clone(m.file[:size])
	m.floor = min(m.floor, size)
	return api.OK
}

func (m *model) crash(c api.Crash) {
	if c.Keep < 0 {
		m.file = slices.Clone(m.old)
	} else {
		m.file = slices.Clone(m.file[:min(len(m.file), m.floor+c.Keep)])
		next := 0
		for k := range m.file {
			if len(c.Junk) > 0 && k >= m.floor && k/512 == (len(m.file)-1)/512 {
				m.file[k] = c.Junk[next%len(c.Junk)]
				next++
			}
		}
	}
	m.old, m.floor = slices.Clone(m.file), len(m.file)
	m.down, m.armed, m.fail = false, false, 0
}

func (m *model) copy() *model {
	c := *m
	return &c
}

// alike holds all that a disk tells without an operation against a model.
func alike(t *testing.T, d *Disk, m *model, what string) {
	t.Helper()
	if b := d.Image(); !bytes.Equal(b, m.file) {
		t.Fatalf("%s: has %d bytes, not the %d that it should", what, len(b), len(m.file))
	}
	if d.Size() != len(m.file) || d.Synced() != m.floor || d.Down() != m.down {
		t.Fatalf("%s: size %d, floor %d, down %v; not %d, %d, %v", what, d.Size(), d.Synced(), d.Down(), len(m.file), m.floor, m.down)
	}
}

// step does one thing, chosen by chance, with a disk and a model.
func step(t *testing.T, r *rand.Rand, d *Disk, m *model) {
	t.Helper()
	same := func(what string, got, want api.Errno) {
		t.Helper()
		if got != want {
			t.Fatalf("%s = %d, not %d", what, got, want)
		}
		alike(t, d, m, what)
	}
	switch r.Intn(24) {
	default:
		b := fill(r.Intn(1+r.Intn(700)), r.Int())
		same("Append", d.Append(b), m.append(b))
	case 0, 1, 2, 3:
		same("Sync", d.Sync(), m.sync())
	case 4, 5, 6:
		at, n := r.Intn(len(m.file)+3)-1, r.Intn(len(m.file)+3)-1
		got, e := d.ReadAt(at, n)
		want, f := m.readAt(at, n)
		if !bytes.Equal(got, want) {
			t.Fatalf("ReadAt(%d, %d) = %d bytes, not these %d", at, n, len(got), len(want))
		}
		same("ReadAt", e, f)
	case 7, 8:
		size := r.Intn(len(m.file)+3) - 1
		same("Truncate", d.Truncate(size), m.truncate(size))
	case 9, 10, 11:
		size := max(0, len(m.file)-r.Intn(40))
		same("Truncate", d.Truncate(size), m.truncate(size))
	case 12:
		n := r.Intn(20)
		m.armed, m.arm = true, n
		same("Arm", d.Arm(n), api.OK)
	case 13:
		n, e := 1+r.Intn(10), []api.Errno{api.ErrIO, api.ErrFull}[r.Intn(2)]
		m.fail, m.failure = n, e
		same("Fail", d.Fail(n, e), api.OK)
	case 14, 15:
		c := api.Crash{Keep: r.Intn(1500) - 100, Junk: fill(max(0, r.Intn(900)-300), r.Int())}
		m.crash(c)
		same("Crash", d.Crash(c), api.OK)
	}
}

// P7.1 to P7.4: whatever is done, in whatever order, disks are as the chapter's words have them, and so are copies that go on apart.
func TestAgainstModel(t *testing.T) {
	for seed := range 300 {
		r := rand.New(rand.NewSource(int64(seed)))
		most := []int{0, 1, 600, 3000, 20000}[r.Intn(5)]
		b := fill(r.Intn(most+1), seed)
		d, m := loaded(t, most, b), &model{most: most, file: b, old: b, floor: len(b)}
		alike(t, d, m, "Load")
		for range 400 {
			step(t, r, d, m)
			if r.Intn(20) != 0 {
				continue
			}
			// Either of both may go on: the other is held against what it was.
			c, n := d.Copy(), m.copy()
			for range 10 {
				step(t, r, c, n)
			}
			alike(t, d, m, "behind its copy")
			if r.Intn(2) == 0 {
				was, wasModel := d, m
				d, m = c, n
				step(t, r, was, wasModel)
				alike(t, d, m, "behind what it was copied from")
			}
		}
	}
}

// The chapter's examples.
func TestExamples(t *testing.T) {
	d := fresh(t, 1000)
	well(t, d.Append([]byte("abc")), d.Sync(), d.Append([]byte("de")))
	holds(t, d, "abcde", 3)
	for _, x := range []struct {
		keep       int
		junk, want string
	}{{1, "", "abcd"}, {1, "x", "abcx"}, {0, "", "abc"}, {-1, "", "abc"}} {
		if s := crashed(t, d, x.keep, x.junk); s != x.want {
			t.Errorf("Crash(%d, %q): %q, not %q", x.keep, x.junk, s, x.want)
		}
	}
	d = loaded(t, 1000, []byte("abc"))
	well(t, d.Truncate(1), d.Append([]byte("z")))
	holds(t, d, "az", 1)
	if a, b, c := crashed(t, d, 1, ""), crashed(t, d, 0, ""), crashed(t, d, -1, ""); a != "az" || b != "a" || c != "abc" {
		t.Errorf("cut: %q, %q, %q", a, b, c)
	}
	d = fresh(t, 1000)
	well(t, d.Arm(1))
	if a, b := d.Append([]byte("a")), d.Append([]byte("b")); a != api.OK || b != api.ErrDown {
		t.Errorf("Arm(1): %d, %d", a, b)
	}
	d = fresh(t, 1000)
	well(t, d.Fail(2, api.ErrFull))
	if a, b, c := d.Append([]byte("a")), d.Append([]byte("b")), d.Append([]byte("c")); a != api.OK || b != api.ErrFull || c != api.OK {
		t.Errorf("Fail(2, ErrFull): %d, %d, %d", a, b, c)
	}
	holds(t, d, "ac", 0)
	d = fresh(t, 1000)
	if e := d.Append(make([]byte, 1001)); e != api.ErrFull {
		t.Errorf("Append of 1001 bytes = %d", e)
	}
	holds(t, d, "", 0)
	well(t, d.Append(make([]byte, 1000)))
}

// P7.1, R2: how many bytes a disk may have, at both ends and past them.
func TestMost(t *testing.T) {
	for _, most := range []int{math.MinInt, -1 << 32, -2, -1, api.MaxDisk + 1, 1 << 31, 1 << 32, 1<<32 + 5, math.MaxInt} {
		if d, e := New(most); d != nil || e != api.ErrArg {
			t.Errorf("New(%d) = %v, %d", most, d, e)
		}
		for _, b := range [][]byte{nil, {}, {1}, make([]byte, 1000)} {
			if d, e := Load(most, b); d != nil || e != api.ErrArg {
				t.Errorf("Load(%d, %d bytes) = %v, %d", most, len(b), d, e)
			}
		}
	}
	for _, most := range []int{0, 1, 2, 511, 512, 513, api.MaxDisk - 1, api.MaxDisk} {
		holds(t, fresh(t, most), "", 0)
		for _, n := range []int{0, most / 2, most} {
			b := fill(n, n)
			holds(t, loaded(t, most, b), string(b), n)
		}
		for _, n := range []int{most + 1, most + 2, api.MaxDisk + 1} {
			if d, e := Load(most, make([]byte, n)); d != nil || e != api.ErrArg {
				t.Errorf("Load(%d, %d bytes) = %v, %d", most, n, d, e)
			}
		}
	}
}

// P7.1: a disk that was loaded is synced, and neither down, nor armed, nor to fail.
func TestLoaded(t *testing.T) {
	for _, n := range []int{0, 1, 512, 2000} {
		b := fill(n, n)
		d := loaded(t, 3000, b)
		for _, keep := range []int{-1, 0, 5} {
			if s := crashed(t, d, keep, "junk"); s != string(b) {
				t.Errorf("%d bytes, Crash(%d): %d bytes", n, keep, len(s))
			}
		}
		if d.Down() {
			t.Error("down")
		}
		for range 100 {
			well(t, d.Append([]byte("a")), d.Sync())
		}
	}
}

// P7.2, R2: a disk has as many bytes as it may have, and no more; what is refused changes nothing, and less goes on to go well.
func TestFull(t *testing.T) {
	for _, most := range []int{0, 1, 2, 600, api.MaxDisk} {
		for _, n := range []int{0, 1, most / 2, most - 1, most} {
			if n < 0 || n > most {
				continue
			}
			b := fill(n, n)
			d := loaded(t, most, b)
			for _, more := range []int{most - n + 1, most - n + 2, most + 1, api.MaxDisk + 1} {
				if e := d.Append(make([]byte, more)); e != api.ErrFull {
					t.Errorf("%d of %d bytes, Append of %d = %d", n, most, more, e)
				}
				holds(t, d, string(b), n)
			}
			rest := fill(most-n, 3)
			well(t, d.Append(rest))
			holds(t, d, string(b)+string(rest), n)
			well(t, d.Append(nil), d.Append([]byte{}))
			if e := d.Append([]byte{1}); e != api.ErrFull {
				t.Errorf("Append to %d of %d bytes = %d", most, most, e)
			}
			well(t, d.Sync(), d.Truncate(0), d.Append(make([]byte, most)))
		}
	}
}

// P7.2: a disk that was cut has room again; one whose old file a crash left, too.
func TestRoomAgain(t *testing.T) {
	d := loaded(t, 10, []byte("abcdefgh"))
	well(t, d.Truncate(2), d.Append([]byte("01234567")))
	if e := d.Append([]byte("8")); e != api.ErrFull {
		t.Errorf("past the end: %d", e)
	}
	well(t, d.Crash(api.Crash{Keep: -1}))
	holds(t, d, "abcdefgh", 8)
	if e := d.Append([]byte("890")); e != api.ErrFull {
		t.Errorf("past the end: %d", e)
	}
	well(t, d.Append([]byte("89")))
	holds(t, d, "abcdefgh89", 8)
}

// P7.2: the floor is the least size since the last sync.
func TestFloor(t *testing.T) {
	d := fresh(t, 1000)
	put := func(b string) func() api.Errno { return func() api.Errno { return d.Append([]byte(b)) } }
	cut := func(size int) func() api.Errno { return func() api.Errno { return d.Truncate(size) } }
	for _, x := range []struct {
		act   func() api.Errno
		file  string
		floor int
		old   string
	}{
		{put("abcdef"), "abcdef", 0, ""},
		{cut(4), "abcd", 0, ""},
		{d.Sync, "abcd", 4, "abcd"},
		{put("ef"), "abcdef", 4, "abcd"},
		{cut(5), "abcde", 4, "abcd"},
		{cut(4), "abcd", 4, "abcd"},
		{cut(3), "abc", 3, "abcd"},
		{cut(3), "abc", 3, "abcd"},
		{put("xyz"), "abcxyz", 3, "abcd"},
		{cut(1), "a", 1, "abcd"},
		{put("uvw"), "auvw", 1, "abcd"},
		{cut(2), "au", 1, "abcd"},
		{d.Sync, "au", 2, "au"},
		{d.Sync, "au", 2, "au"},
		{cut(0), "", 0, "au"},
		{put("hello"), "hello", 0, "au"},
		{d.Sync, "hello", 5, "hello"},
	} {
		well(t, x.act())
		holds(t, d, x.file, x.floor)
		if s := crashed(t, d, -1, "junk"); s != x.old {
			t.Fatalf("behind %q: the old file %q, not %q", x.file, s, x.old)
		}
	}
}

// P7.2, R2: every part of a file is read, all others are refused; neither changes the file.
func TestReadAt(t *testing.T) {
	b := fill(40, 1)
	d := loaded(t, 100, b)
	for at := -3; at < 45; at++ {
		for n := -3; n < 45; n++ {
			got, e := d.ReadAt(at, n)
			if at >= 0 && n >= 0 && at+n <= 40 {
				if e != api.OK || !bytes.Equal(got, b[at:at+n]) {
					t.Fatalf("ReadAt(%d, %d) = %x, %d", at, n, got, e)
				}
			} else if e != api.ErrArg || got != nil {
				t.Fatalf("ReadAt(%d, %d) = %x, %d", at, n, got, e)
			}
		}
	}
	wrong := []int{math.MinInt, math.MinInt + 40, -1 << 32, -1, 41, 1 << 32, 1<<32 + 1, math.MaxInt - 40, math.MaxInt - 1, math.MaxInt}
	for _, x := range wrong {
		for _, y := range append([]int{0, 1, 2, 40}, wrong...) {
			for _, p := range [][2]int{{x, y}, {y, x}} {
				if got, e := d.ReadAt(p[0], p[1]); got != nil || e != api.ErrArg {
					t.Errorf("ReadAt(%d, %d) = %x, %d", p[0], p[1], got, e)
				}
			}
		}
	}
	holds(t, d, string(b), 40)
	well(t, d.Truncate(10))
	if got, e := d.ReadAt(5, 6); got != nil || e != api.ErrArg {
		t.Errorf("ReadAt of what was cut off = %x, %d", got, e)
	}
	none := fresh(t, 5)
	if got, e := none.ReadAt(0, 0); len(got) != 0 || e != api.OK {
		t.Errorf("ReadAt(0, 0) of nothing = %x, %d", got, e)
	}
}

// P7.2, R2: a file is cut to any size that it has, to none other.
func TestTruncate(t *testing.T) {
	b := fill(1100, 2)
	for _, size := range []int{0, 1, 511, 512, 513, 1099, 1100} {
		d := loaded(t, 2000, b)
		well(t, d.Append([]byte("more")), d.Truncate(size))
		holds(t, d, string(b[:size]), size)
	}
	d := loaded(t, 2000, b)
	for _, size := range []int{math.MinInt, -1 << 32, -1, 1101, 2000, 2001, 1 << 32, 1<<32 + 1, math.MaxInt} {
		if e := d.Truncate(size); e != api.ErrArg {
			t.Errorf("Truncate(%d) = %d", size, e)
		}
		holds(t, d, string(b), 1100)
	}
}

// P7.2: the old file is there whole, however its bytes were cut off and others put in their place.
func TestOldFile(t *testing.T) {
	b := fill(1000, 4)
	d := loaded(t, 5000, b)
	for i, size := range []int{990, 995, 700, 700, 699, 3, 2, 0} {
		if size <= d.Size() {
			well(t, d.Truncate(size))
		}
		well(t, d.Append(fill(37*i, i)))
		if s := crashed(t, d, -1, ""); s != string(b) {
			t.Fatalf("cut %d times: another old file of %d bytes", i+1, len(s))
		}
	}
	well(t, d.Crash(api.Crash{Keep: -1}))
	holds(t, d, string(b), 1000)
}

// operations are the four kinds of them, each done so that it goes well on any disk that lets it and changes its size by no more than a byte.
func operations() map[string]func(d *Disk) api.Errno {
	return map[string]func(d *Disk) api.Errno{
		"Append":   func(d *Disk) api.Errno { return d.Append([]byte("a")) },
		"Sync":     func(d *Disk) api.Errno { return d.Sync() },
		"ReadAt":   func(d *Disk) api.Errno { _, e := d.ReadAt(0, d.Size()); return e },
		"Truncate": func(d *Disk) api.Errno { return d.Truncate(max(0, d.Size()-1)) },
	}
}

// P7.3: armed with n a disk lets n operations be, of whatever kind; the next one puts it down, and is not done.
func TestArm(t *testing.T) {
	for name, op := range operations() {
		for n := range 6 {
			d := loaded(t, 1000, []byte("abcdefgh"))
			well(t, d.Append([]byte("ij")), d.Arm(n))
			for range n {
				well(t, op(d))
			}
			if d.Down() {
				t.Fatalf("%s, armed with %d: down ahead of the operation", name, n)
			}
			file, floor := string(d.Image()), d.Synced()
			for _, again := range operations() {
				if e := again(d); e != api.ErrDown {
					t.Fatalf("%s, armed with %d: %d", name, n, e)
				}
				holds(t, d, file, floor)
				if !d.Down() {
					t.Fatalf("%s, armed with %d: not down", name, n)
				}
			}
		}
	}
}

// P7.3, R2: the number that a disk is armed with; what is refused leaves it as it was.
func TestArmNumbers(t *testing.T) {
	d := fresh(t, 1000)
	for _, n := range []int{math.MinInt, -1 << 32, -2, -1} {
		if e := d.Arm(n); e != api.ErrArg {
			t.Errorf("Arm(%d) = %d", n, e)
		}
		for range 3 {
			well(t, d.Sync())
		}
	}
	well(t, d.Arm(2))
	if e := d.Arm(-1); e != api.ErrArg {
		t.Errorf("Arm(-1) = %d", e)
	}
	well(t, d.Sync(), d.Sync())
	if e := d.Sync(); e != api.ErrDown {
		t.Errorf("the third operation = %d", e)
	}
	for _, n := range []int{1000, math.MaxInt} {
		d := fresh(t, 1000)
		well(t, d.Arm(0), d.Arm(n))
		for range 1000 {
			well(t, d.Sync())
		}
		if e := d.Sync(); (e == api.ErrDown) != (n == 1000) {
			t.Errorf("armed with %d: %d", n, e)
		}
	}
}

// P7.3: the n-th operation fails, by the error that was named, and is not done; no other one does.
func TestFail(t *testing.T) {
	for name, op := range operations() {
		for _, want := range []api.Errno{api.ErrIO, api.ErrFull} {
			for n := 1; n < 6; n++ {
				d := loaded(t, 1000, []byte("abcdefgh"))
				well(t, d.Append([]byte("ij")), d.Fail(n, want))
				for range n - 1 {
					well(t, op(d))
				}
				file, floor := string(d.Image()), d.Synced()
				if e := op(d); e != want {
					t.Fatalf("%s, Fail(%d, %d): %d", name, n, want, e)
				}
				holds(t, d, file, floor)
				if d.Down() {
					t.Fatalf("%s, Fail(%d, %d): down", name, n, want)
				}
				for range 3 * n {
					well(t, op(d))
				}
			}
		}
	}
}

// P7.3, R2: what may be told to fail, and by which error; what is refused leaves it as it was, a later call counts in place of an earlier one.
func TestFailNumbers(t *testing.T) {
	d := fresh(t, 1000)
	refused := func(n int, e api.Errno) {
		t.Helper()
		if got := d.Fail(n, e); got != api.ErrArg {
			t.Errorf("Fail(%d, %d) = %d", n, e, got)
		}
	}
	for _, n := range []int{math.MinInt, -1 << 32, -1, 0} {
		refused(n, api.ErrIO)
		refused(n, api.ErrFull)
		refused(n, api.OK)
	}
	for e := api.Errno(-1); e < 140; e++ {
		if e != api.ErrIO && e != api.ErrFull {
			refused(1, e)
		}
	}
	well(t, d.Sync(), d.Sync(), d.Fail(2, api.ErrIO))
	refused(1, api.ErrDown)
	refused(0, api.ErrFull)
	well(t, d.Sync())
	if e := d.Sync(); e != api.ErrIO {
		t.Errorf("the second operation = %d", e)
	}
	well(t, d.Fail(1, api.ErrIO), d.Fail(3, api.ErrFull), d.Sync(), d.Sync())
	if e := d.Sync(); e != api.ErrFull {
		t.Errorf("the third operation = %d", e)
	}
	well(t, d.Fail(math.MaxInt, api.ErrIO))
	for range 1000 {
		well(t, d.Sync())
	}
}

// P7.2, P7.3: an operation that fails is one of those that the disk was armed for; of a disk that goes down and one that fails, going down counts first.
func TestArmAndFail(t *testing.T) {
	d := fresh(t, 1000)
	well(t, d.Arm(3), d.Fail(2, api.ErrIO))
	want := []api.Errno{api.OK, api.ErrIO, api.OK, api.ErrDown, api.ErrDown}
	for i, e := range want {
		if got := d.Append([]byte("a")); got != e {
			t.Fatalf("operation %d = %d, not %d", i+1, got, e)
		}
	}
	holds(t, d, "aa", 0)
	d = fresh(t, 1000)
	well(t, d.Arm(0), d.Fail(1, api.ErrFull))
	for range 3 {
		if e := d.Sync(); e != api.ErrDown {
			t.Errorf("armed with 0, to fail with 1: %d", e)
		}
	}
}

// P7.2, P7.3: an Append for which there is no room is an operation; a call whose arguments may not be is none.
func TestWhatCounts(t *testing.T) {
	full := make([]byte, 11)
	d := fresh(t, 10)
	well(t, d.Arm(2))
	if a, b, c := d.Append(full), d.Append(full), d.Append(full); a != api.ErrFull || b != api.ErrFull || c != api.ErrDown {
		t.Errorf("no room, armed: %d, %d, %d", a, b, c)
	}
	d = fresh(t, 10)
	well(t, d.Fail(2, api.ErrIO))
	if a, b, c := d.Append(full), d.Append(full), d.Append(full); a != api.ErrFull || b != api.ErrIO || c != api.ErrFull {
		t.Errorf("no room, to fail: %d, %d, %d", a, b, c)
	}
	wrong := func(d *Disk) {
		t.Helper()
		_, a := d.ReadAt(0, d.Size()+1)
		_, b := d.ReadAt(-1, 0)
		if c, e := d.Truncate(d.Size()+1), d.Truncate(-1); a != api.ErrArg || b != api.ErrArg || c != api.ErrArg || e != api.ErrArg {
			t.Fatalf("arguments that may not be: %d, %d, %d, %d", a, b, c, e)
		}
	}
	d = loaded(t, 100, []byte("abc"))
	well(t, d.Arm(2), d.Fail(1, api.ErrIO))
	wrong(d)
	if a, b := d.Sync(), d.Sync(); a != api.ErrIO || b != api.OK {
		t.Errorf("behind arguments that may not be: %d, %d", a, b)
	}
	wrong(d)
	if d.Down() || d.Sync() != api.ErrDown {
		t.Error("not armed any more, or too early")
	}
	wrong(d)
	if !d.Down() {
		t.Error("up again")
	}
	d = loaded(t, 100, []byte("abc"))
	well(t, d.Arm(0))
	d.Size()
	d.Synced()
	d.Image()
	d.Copy()
	if d.Down() || d.Arm(1) != api.OK || d.Fail(5, api.ErrIO) != api.OK || d.Sync() != api.OK {
		t.Error("a call that is no operation put it down")
	}
}

// P7.1, P7.3: of a disk that is down all is told, and both Arm and Fail go well, or not, as ever; it stays down.
func TestDown(t *testing.T) {
	d := loaded(t, 100, []byte("abc"))
	well(t, d.Truncate(2), d.Append([]byte("xyz")), d.Arm(0))
	d.Sync()
	for range 2 {
		holds(t, d, "abxyz", 2)
		well(t, d.Arm(0), d.Arm(5), d.Fail(1, api.ErrIO), d.Fail(2, api.ErrFull))
		if a, b, c := d.Arm(-1), d.Fail(0, api.ErrIO), d.Fail(1, api.OK); a != api.ErrArg || b != api.ErrArg || c != api.ErrArg {
			t.Errorf("refused: %d, %d, %d", a, b, c)
		}
		for name, op := range operations() {
			if e := op(d); e != api.ErrDown || !d.Down() {
				t.Errorf("%s of a disk that is down = %d", name, e)
			}
		}
		d = d.Copy()
	}
	well(t, d.Crash(api.Crash{Keep: 1}))
	if d.Down() {
		t.Error("down behind a crash")
	}
	holds(t, d, "abx", 3)
	for range 10 {
		well(t, d.Sync(), d.Append([]byte("a")))
	}
}

// P7.4: a crash ends what was to come: being down, armed, to fail; all is synced then.
func TestCrashSettles(t *testing.T) {
	for _, keep := range []int{math.MinInt, -1, 0, 1, 4, 5, math.MaxInt} {
		for _, junk := range []string{"", "xy"} {
			for down := range 2 {
				d := loaded(t, 100, []byte("abc"))
				well(t, d.Append([]byte("defgh")), d.Arm(down*2), d.Fail(2-down, api.ErrIO))
				if down == 0 {
					d.Sync()
				}
				well(t, d.Crash(api.Crash{Keep: keep, Junk: []byte(junk)}))
				file := string(d.Image())
				holds(t, d, file, len(file))
				if d.Down() || crashed(t, d, -1, "") != file || crashed(t, d, 0, "q") != file || crashed(t, d, 9, "q") != file {
					t.Errorf("Crash(%d, %q): down, or not synced", keep, junk)
				}
				for range 10 {
					well(t, d.Append([]byte("a")), d.Sync())
				}
			}
		}
	}
}

// P7.4: the floor's bytes and so many more are kept, all if there are not so many; below 0 the old file is.
func TestCrashKeeps(t *testing.T) {
	old, more := fill(700, 5), fill(900, 6)
	for _, cut := range []int{700, 699, 512, 100, 0} {
		d := loaded(t, 5000, old)
		well(t, d.Truncate(cut), d.Append(more))
		for _, keep := range []int{math.MinInt, -700, -2, -1, 0, 1, 2, 411, 412, 413, 899, 900, 901, 1 << 32, 1<<32 + 1, math.MaxInt - 100, math.MaxInt} {
			want := string(old)
			if keep >= 0 {
				want = string(old[:cut]) + string(more[:min(keep, 900)])
			}
			if s := crashed(t, d, keep, ""); s != want {
				t.Errorf("cut to %d, Crash(%d): %d bytes, not these %d", cut, keep, len(s), len(want))
			}
		}
		if s := crashed(t, d, -1, "junk"); s != string(old) {
			t.Errorf("cut to %d: junk in the old file", cut)
		}
	}
}

// P7.4: junk lies in the last sector that is kept, from the floor on, round and round, and nowhere else.
func TestJunk(t *testing.T) {
	whole := string(fill(1600, 7))
	for _, floor := range []int{0, 1, 5, 511, 512, 513, 600, 1023, 1024, 1025, 1600} {
		d := loaded(t, 5000, []byte(whole[:floor]))
		well(t, d.Append([]byte(whole[floor:])))
		for _, size := range []int{0, 1, 2, 6, 510, 511, 512, 513, 514, 1000, 1023, 1024, 1025, 1026, 1535, 1536, 1537, 1600} {
			if size < floor {
				continue
			}
			for _, n := range []int{1, 2, 3, 7, 255, 511, 512, 513, 2000} {
				junk := string(fill(n, n+1))
				first := max(floor, max(0, size-1)/512*512)
				want := []byte(whole[:size])
				for i := first; i < size; i++ {
					want[i] = junk[(i-first)%n]
				}
				if s := crashed(t, d, size-floor, junk); s != string(want) {
					t.Fatalf("floor %d, %d bytes, junk of %d: another file of %d bytes", floor, size, n, len(s))
				}
			}
		}
	}
	if s := crashed(t, fresh(t, 10), 5, "junk"); s != "" {
		t.Errorf("junk of nothing: %q", s)
	}
	d := fresh(t, 10)
	well(t, d.Append([]byte("abcdef")))
	if a, b := crashed(t, d, 5, "xy"), crashed(t, d, 0, "xy"); a != "xyxyx" || b != "" {
		t.Errorf("junk: %q, %q", a, b)
	}
}

// P7.5: behind any crash the bytes below the floor are as they were, or the old file is; ahead of the last sector there is no byte but the old file's and those appended since.
func TestWhatFollows(t *testing.T) {
	for seed := range 400 {
		r := rand.New(rand.NewSource(int64(seed)))
		old := bytes.Repeat([]byte{1}, r.Intn(1500))
		d := loaded(t, 10000, old)
		for range r.Intn(12) {
			if r.Intn(3) == 0 {
				well(t, d.Truncate(r.Intn(d.Size()+1)))
			} else {
				well(t, d.Append(bytes.Repeat([]byte{2}, r.Intn(800))))
			}
		}
		was, floor := d.Image(), d.Synced()
		c := api.Crash{Keep: r.Intn(2000) - 200, Junk: bytes.Repeat([]byte{3}, r.Intn(4))}
		well(t, d.Crash(c))
		b := d.Image()
		if c.Keep < 0 {
			if !bytes.Equal(b, old) {
				t.Fatalf("seed %d: not the old file", seed)
			}
			continue
		}
		if len(b) < floor || !bytes.Equal(b[:floor], was[:floor]) {
			t.Fatalf("seed %d: bytes below the floor have changed", seed)
		}
		for i, x := range b {
			if x == 3 && (i < floor || i/512 != (len(b)-1)/512) {
				t.Fatalf("seed %d: junk at %d of %d, floor %d", seed, i, len(b), floor)
			}
			if x != 3 && x != was[i] {
				t.Fatalf("seed %d: another byte at %d of %d", seed, i, len(b))
			}
		}
	}
}

// P7.1: a copy is as the disk is, in all that is told and all that is to come, and goes its own way.
func TestCopy(t *testing.T) {
	d := loaded(t, 12, []byte("abcdef"))
	well(t, d.Truncate(3), d.Append([]byte("xyz")), d.Arm(4), d.Fail(2, api.ErrFull))
	c := d.Copy()
	holds(t, c, "abcxyz", 3)
	for _, x := range []*Disk{c, d} {
		holds(t, x, "abcxyz", 3)
		if s := crashed(t, x, -1, ""); s != "abcdef" {
			t.Errorf("the old file: %q", s)
		}
		want := []api.Errno{api.OK, api.ErrFull, api.OK, api.ErrFull, api.ErrDown}
		for i, b := range []string{"uvw", "a", "st", "0123", "a"} {
			if e := x.Append([]byte(b)); e != want[i] {
				t.Fatalf("operation %d = %d, not %d", i+1, e, want[i])
			}
		}
		holds(t, x, "abcxyzuvwst", 3)
		if !x.Down() || !x.Copy().Down() {
			t.Error("not down")
		}
	}
}

// P7.1, R3: nothing that is done with a copy, or with a copy of it, changes the disk, or the other way round.
func TestCopiesApart(t *testing.T) {
	acts := []func(d *Disk){
		func(d *Disk) { d.Append([]byte("more")) },
		func(d *Disk) { d.Truncate(0); d.Append([]byte("other")) },
		func(d *Disk) { d.Truncate(2); d.Append([]byte("other")); d.Sync() },
		func(d *Disk) { d.Crash(api.Crash{Keep: 2, Junk: []byte("#")}) },
		func(d *Disk) { d.Crash(api.Crash{Keep: -1}); d.Append([]byte("zzzzz")) },
		func(d *Disk) { d.Arm(0); d.Sync() },
		func(d *Disk) { d.Fail(1, api.ErrIO) },
	}
	for i, act := range acts {
		d := loaded(t, 100, []byte("abcdef"))
		well(t, d.Truncate(4), d.Append([]byte("xyz")), d.Truncate(6), d.Truncate(5))
		one, two := d.Copy(), d.Copy().Copy()
		for _, x := range []*Disk{d, one, two} {
			act(x)
			for _, y := range []*Disk{d, one, two} {
				// Those behind x have not been acted upon yet.
				if x == two || y == x || x == one && y == d {
					continue
				}
				holds(t, y, "abcdx", 4)
				if y.Down() || crashed(t, y, -1, "") != "abcdef" || crashed(t, y, 9, "") != "abcdx" || y.Copy().Sync() != api.OK {
					t.Fatalf("act %d upon one disk changed another", i)
				}
			}
		}
		if !bytes.Equal(d.Image(), one.Image()) || !bytes.Equal(d.Image(), two.Image()) || d.Synced() != two.Synced() || d.Down() != two.Down() {
			t.Errorf("act %d: unlike ends of like disks", i)
		}
	}
}

// R5: what is no disk answers zeros, ErrNil ahead of all else; a struct that was copied by hand is none, and leaves the disk alone.
func TestNoDisk(t *testing.T) {
	d := loaded(t, 100, []byte("abc"))
	byHand := *d
	over := fresh(t, 10)
	*over = *d
	for name, x := range map[string]*Disk{"nil": nil, "new": new(Disk), "literal": {}, "copied by hand": &byHand, "over another": over} {
		for range 2 {
			for _, b := range [][]byte{nil, {}, {1}, make([]byte, api.MaxDisk+1)} {
				if e := x.Append(b); e != api.ErrNil {
					t.Errorf("%s: Append of %d bytes = %d", name, len(b), e)
				}
				if e := x.Crash(api.Crash{Keep: len(b) - 1, Junk: b}); e != api.ErrNil {
					t.Errorf("%s: Crash = %d", name, e)
				}
			}
			for _, n := range []int{math.MinInt, -1, 0, 1, math.MaxInt} {
				if b, e := x.ReadAt(n, n); b != nil || e != api.ErrNil {
					t.Errorf("%s: ReadAt(%d, %d) = %x, %d", name, n, n, b, e)
				}
				if a, b, c, e := x.Truncate(n), x.Arm(n), x.Fail(n, api.ErrIO), x.Fail(n, api.OK); a != api.ErrNil || b != api.ErrNil || c != api.ErrNil || e != api.ErrNil {
					t.Errorf("%s: of %d: %d, %d, %d, %d", name, n, a, b, c, e)
				}
			}
			if e := x.Sync(); e != api.ErrNil {
				t.Errorf("%s: Sync = %d", name, e)
			}
			if x.Size() != 0 || x.Synced() != 0 || x.Down() || x.Image() != nil || x.Copy() != nil {
				t.Errorf("%s: it tells something", name)
			}
		}
	}
	holds(t, d, "abc", 3)
	well(t, d.Append([]byte("d")), d.Sync())
}

// R3: what is handed in stays as it is, its spare room too, whatever comes behind.
func TestHandedInStays(t *testing.T) {
	for _, n := range []int{0, 1, 7, 512, 600} {
		was := fill(n, n)
		b, more, junk := roomy(was), roomy(was), roomy(was)
		d := loaded(t, 10000, b)
		well(t, d.Append([]byte("abc")), d.Append(more), d.Append([]byte("def")), d.Append(more), d.Truncate(n/2), d.Append(more))
		well(t, d.Crash(api.Crash{Keep: 5000, Junk: junk}), d.Append([]byte("ghi")), d.Truncate(0), d.Append(more), d.Append(junk))
		well(t, d.Fail(1, api.ErrIO))
		d.Append(more)
		well(t, d.Crash(api.Crash{Keep: -1, Junk: junk}))
		Load(n-1, b)
		new(Disk).Append(more)
		if !stayed(b, was) || !stayed(more, was) || !stayed(junk, was) {
			t.Fatalf("%d bytes: what was handed in has changed", n)
		}
	}
}

// R3: what is handed in is not kept: a disk has the bytes as they were.
func TestHandedInIsNotKept(t *testing.T) {
	for _, n := range []int{1, 7, 512, 600} {
		was := fill(n, n)
		b, more, junk := roomy(was), roomy(was), roomy(was[:1])
		d := loaded(t, 10000, b)
		well(t, d.Append(more))
		clear(b[:cap(b)])
		clear(more[:cap(more)])
		holds(t, d, string(was)+string(was), n)
		if s := crashed(t, d, -1, ""); s != string(was) {
			t.Fatalf("%d bytes: another old file", n)
		}
		well(t, d.Crash(api.Crash{Keep: 1, Junk: junk}))
		clear(junk[:cap(junk)])
		holds(t, d, string(was)+string(was[:1]), n+1)
	}
}

// R3, R4: what is handed out is new each time: changing it, spare room too, changes no disk, nor another answer; nor does what is done with the disk change it.
func TestHandedOutIsNew(t *testing.T) {
	for _, n := range []int{1, 7, 512, 600} {
		b := fill(n, n)
		d := loaded(t, 10000, b)
		// Cut, so that the file's memory has room behind it.
		well(t, d.Append([]byte("abcdefgh")), d.Truncate(n+5))
		has := string(b) + "abcde"
		image, other := d.Image(), d.Image()
		part, e := d.ReadAt(0, n)
		same, f := d.ReadAt(0, n)
		well(t, e, f)
		clear(other[:cap(other)])
		clear(same[:cap(same)])
		holds(t, d, has, n)
		if string(image) != has || string(part) != string(b) {
			t.Fatalf("%d bytes: answers share memory", n)
		}
		well(t, d.Append([]byte("fg")), d.Crash(api.Crash{Keep: 7, Junk: []byte("#")}), d.Truncate(0), d.Append(make([]byte, n)))
		if string(image) != has || string(part) != string(b) {
			t.Fatalf("%d bytes: an answer has changed", n)
		}
		file := string(d.Image())
		clear(image[:cap(image)])
		part = append(part, 9)
		part[0]++
		holds(t, d, file, 0)
	}
}

// R6: an empty list and none are the same.
func TestEmptyIsNone(t *testing.T) {
	for _, none := range [][]byte{nil, {}, roomy(nil)} {
		d := loaded(t, 100, none)
		holds(t, d, "", 0)
		well(t, d.Append([]byte("abc")), d.Append(none))
		holds(t, d, "abc", 0)
		well(t, d.Crash(api.Crash{Keep: 2, Junk: none}))
		holds(t, d, "ab", 2)
	}
}

// Limits: syncs and cuts of a great file cost no more than what they change.
func TestGreat(t *testing.T) {
	b := fill(api.MaxDisk, 8)
	d := loaded(t, api.MaxDisk, b)
	for i := range 200000 {
		well(t, d.Truncate(api.MaxDisk-1-i), d.Append([]byte{1}))
		if i%2 == 0 {
			well(t, d.Sync())
		}
	}
	if d.Size() != api.MaxDisk-199999 {
		t.Errorf("size %d", d.Size())
	}
	well(t, d.Truncate(0), d.Sync(), d.Append(b))
	if s := crashed(t, d, api.MaxDisk, ""); s != string(b) {
		t.Error("another file")
	}
}
