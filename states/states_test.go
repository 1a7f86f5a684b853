package states

import (
	"math"
	"testing"
)

// seen is a state as a plain pair of counts: of noughts, of ones.
type seen [2]int

// others is what the promise's rule makes of the count of the kind that did not come, written out.
var others = [16]int{0, 1, 2, 2, 3, 3, 4, 4, 5, 5, 6, 6, 7, 7, 8, 8}

// then is what stands behind one bit of the kind more.
func (p seen) then(kind int) seen {
	p[1-kind] = others[p[1-kind]]
	if p[kind] < 15 {
		p[kind]++
	}
	return p
}

// all calls f for each state that a byte can be, with its counts.
func all(f func(s uint8, p seen)) {
	s := uint8(0)
	for noughts := range 16 {
		for ones := range 16 {
			f(s, seen{noughts, ones})
			s++
		}
	}
}

// number is the byte that has these counts: it is found by going through all of them.
func number(t *testing.T, p seen) uint8 {
	t.Helper()
	found := -1
	all(func(s uint8, q seen) {
		if p == q {
			found = int(s)
		}
	})
	if found < 0 {
		t.Fatalf("no state has the counts %v", p)
	}
	return uint8(found)
}

// bits are numbers other than 0 that stand for a one.
var bits = []int{1, -1, 2, -2, 7, 16, 255, 256, -256, 65536, 1 << 31, 1 << 32, -1 << 32, 1 << 62, math.MaxInt, math.MaxInt - 1, math.MinInt, math.MinInt + 1}

// P10.1, P10.2: the chapter's examples.
func TestExamples(t *testing.T) {
	for _, c := range [][3]int{{0, 1, 1}, {1, 1, 2}, {15, 1, 15}, {15, 0, 24}, {2, 0, 18}} {
		if n := Next(uint8(c[0]), c[1]); int(n) != c[2] {
			t.Errorf("Next(%d, %d) = %d, not %d", c[0], c[1], n, c[2])
		}
	}
	for _, c := range [][2]int{{0, 32768}, {1, 49152}, {16, 16384}} {
		if n := Chance(uint8(c[0])); n != c[1] {
			t.Errorf("Chance(%d) = %d, not %d", c[0], n, c[1])
		}
	}
}

// P10.1: each state's counts.
func TestCounts(t *testing.T) {
	all(func(s uint8, p seen) {
		if noughts, ones := Counts(s); noughts != p[0] || ones != p[1] {
			t.Errorf("Counts(%d) = %d, %d, not %d, %d", s, noughts, ones, p[0], p[1])
		}
	})
}

// P10.1: what is behind each state and each of both bits.
func TestNext(t *testing.T) {
	all(func(s uint8, p seen) {
		for bit := range 2 {
			want := p.then(bit)
			n := Next(s, bit)
			if n != number(t, want) {
				t.Errorf("Next(%d, %d) = %d, not %v", s, bit, n, want)
			}
			if noughts, ones := Counts(n); noughts != want[0] || ones != want[1] {
				t.Errorf("Next(%d, %d) has %d, %d, not %v", s, bit, noughts, ones, want)
			}
		}
	})
}

// P10.1: the counts at which the rule turns: 15 stays, 2 stays, 3 goes down.
func TestNextAtTheEdges(t *testing.T) {
	for _, c := range [][3]int{
		{0x0e, 1, 0x0f}, {0x0f, 1, 0x0f}, {0xe0, 0, 0xf0}, {0xf0, 0, 0xf0}, {0xff, 1, 0x8f}, {0xff, 0, 0xf8},
		{0x10, 1, 0x11}, {0x20, 1, 0x21}, {0x30, 1, 0x21}, {0x40, 1, 0x31}, {0x50, 1, 0x31}, {0xe0, 1, 0x81}, {0xf0, 1, 0x81},
		{0x01, 0, 0x11}, {0x02, 0, 0x12}, {0x03, 0, 0x12}, {0x04, 0, 0x13}, {0x05, 0, 0x13}, {0x0e, 0, 0x18}, {0x0f, 0, 0x18},
	} {
		if n := Next(uint8(c[0]), c[1]); int(n) != c[2] {
			t.Errorf("Next(%#x, %d) = %#x, not %#x", c[0], c[1], n, c[2])
		}
	}
}

// P10.1, R1: any number but 0 is a one, however far.
func TestAnyOtherBitIsAOne(t *testing.T) {
	all(func(s uint8, p seen) {
		want := number(t, p.then(1))
		for _, bit := range bits {
			if n := Next(s, bit); n != want {
				t.Errorf("Next(%d, %d) = %d, not %d", s, bit, n, want)
			}
		}
	})
}

// P10.2: each state's chance is the greatest whole number that the promise's quotient reaches.
func TestChance(t *testing.T) {
	all(func(s uint8, p seen) {
		n := Chance(s)
		above, below := (2*p[1]+1)*65536, 2*p[0]+2*p[1]+2
		if n*below > above || (n+1)*below <= above {
			t.Errorf("Chance(%d) = %d, not %d over %d", s, n, above, below)
		}
	})
}

// P10.2: the farthest chances, and some that leave a rest.
func TestChanceAtTheEdges(t *testing.T) {
	for _, c := range [][2]int{{0x0f, 63488}, {0xf0, 2048}, {0xff, 32768}, {0x11, 32768}, {0x02, 54613}, {0x20, 10922}, {0x21, 24576}, {0x12, 40960}} {
		if n := Chance(uint8(c[0])); n != c[1] {
			t.Errorf("Chance(%#x) = %d, not %d", c[0], n, c[1])
		}
	}
}

// P10.3: behind fifteen of a kind, whatever was ahead of them.
func TestFifteenOfAKind(t *testing.T) {
	all(func(s uint8, _ seen) {
		a, b := s, s
		for range 15 {
			a, b = Next(a, 0), Next(b, 1)
		}
		if noughts, ones := Counts(a); noughts != 15 || ones > 2 {
			t.Errorf("fifteen noughts behind %d: %d, %d", s, noughts, ones)
		}
		if noughts, ones := Counts(b); ones != 15 || noughts > 2 {
			t.Errorf("fifteen ones behind %d: %d, %d", s, noughts, ones)
		}
		if Next(a, 0) != a || Next(b, 1) != b {
			t.Errorf("one more of a kind behind %d and fifteen is another state", s)
		}
	})
}

// P10.3: fourteen of a kind are not always enough.
func TestFourteenOfAKind(t *testing.T) {
	a, b := uint8(0), uint8(0)
	for range 14 {
		a, b = Next(a, 0), Next(b, 1)
	}
	if a != 0xe0 || b != 0x0e {
		t.Errorf("fourteen of a kind: %#x and %#x", a, b)
	}
}

// P10.3: a bit never makes its own kind less likely; a chance is never 0, nor the whole.
func TestNoBitSpeaksAgainstItself(t *testing.T) {
	all(func(s uint8, _ seen) {
		p := Chance(s)
		if p <= 0 || p >= 65536 {
			t.Errorf("Chance(%d) = %d", s, p)
		}
		if q := Chance(Next(s, 0)); q > p {
			t.Errorf("a nought behind %d: from %d to %d", s, p, q)
		}
		if q := Chance(Next(s, 1)); q < p {
			t.Errorf("a one behind %d: from %d to %d", s, p, q)
		}
	})
}

// R4: asked again, and in another order, all answer the same.
func TestAskedAgain(t *testing.T) {
	answers := func(s uint8) [5]int {
		noughts, ones := Counts(s)
		return [5]int{int(Next(s, 0)), int(Next(s, 1)), Chance(s), noughts, ones}
	}
	first := map[uint8][5]int{}
	all(func(s uint8, _ seen) { first[s] = answers(s) })
	for s := 255; s >= 0; s-- {
		if answers(uint8(s)) != first[uint8(s)] {
			t.Errorf("another answer for %d", s)
		}
	}
}
