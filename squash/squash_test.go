package squash

import (
	"math"
	"testing"
)

// curve is the chapter's list of knots, read off a second time.
var curve = []int{1, 2, 4, 6, 10, 17, 27, 45, 74, 120, 194, 311, 488, 747, 1102, 1546, 2048, 2550, 2994, 3349, 3608, 3785, 3902, 3976, 4022, 4051, 4069, 4079, 4086, 4090, 4092, 4094, 4095}

// plain is Squash as the promise's sum for one place behind the other: it goes from knot to knot and from place to place, and divides nothing.
func plain() map[int]int {
	all := map[int]int{}
	d := -2048
	for i := 0; i < 32; i++ {
		for w := 0; w < 128; w++ {
			sum, whole := curve[i]*(128-w)+curve[i+1]*w+64, 0
			for (whole+1)*128 <= sum {
				whole++
			}
			if d != -2048 {
				all[d] = whole
			}
			d++
		}
	}
	return all
}

// far are numbers past both ends, up to those that an int has at most.
var far = []int{2048, 2049, 4095, 4096, 9999, 1 << 20, 1<<31 - 1, 1 << 31, 1 << 32, math.MaxInt - 2048, math.MaxInt - 2047, math.MaxInt - 1, math.MaxInt}

// P9.1, P9.2: the chapter's examples.
func TestExamples(t *testing.T) {
	for _, c := range [][2]int{{0, 2048}, {128, 2550}, {64, 2299}, {-128, 1546}, {2047, 4095}, {-2047, 1}, {9999, 4095}} {
		if n := Squash(c[0]); n != c[1] {
			t.Errorf("Squash(%d) = %d, not %d", c[0], n, c[1])
		}
	}
	for _, c := range [][2]int{{2048, 0}, {0, -2047}, {4095, 1984}, {5000, 2047}} {
		if d := Stretch(c[0]); d != c[1] {
			t.Errorf("Stretch(%d) = %d, not %d", c[0], d, c[1])
		}
	}
}

// P9.1: at the knots the curve has the knots themselves.
func TestSquashAtTheKnots(t *testing.T) {
	if len(curve) != 33 || len(knots) != 33 {
		t.Fatalf("%d and %d knots, not 33", len(curve), len(knots))
	}
	for i := range 33 {
		if knots[i] != curve[i] {
			t.Errorf("knot %d is %d, not %d", i, knots[i], curve[i])
		}
		if n := Squash(128*i - 2048); n != curve[i] {
			t.Errorf("Squash(%d) = %d, not %d", 128*i-2048, n, curve[i])
		}
	}
}

// P9.1: every place between the ends is the promise's sum.
func TestSquashBetween(t *testing.T) {
	all := plain()
	if len(all) != 4095 {
		t.Fatalf("%d places, not 4095", len(all))
	}
	for d := -2047; d <= 2047; d++ {
		if n := Squash(d); n != all[d] {
			t.Errorf("Squash(%d) = %d, not %d", d, n, all[d])
		}
	}
}

// P9.1: what lies halfway between two whole numbers goes up, what lies less goes down.
func TestSquashRounds(t *testing.T) {
	for _, c := range [][2]int{{-2048 + 63, 1}, {-2048 + 64, 2}, {1920 + 63, 4094}, {1920 + 64, 4095}, {-1920 + 31, 2}, {-1920 + 32, 3}} {
		if n := Squash(c[0]); n != c[1] {
			t.Errorf("Squash(%d) = %d, not %d", c[0], n, c[1])
		}
	}
}

// P9.1, R1: past the ends, however far.
func TestSquashPastTheEnds(t *testing.T) {
	for _, d := range far {
		if n := Squash(d); n != 4095 {
			t.Errorf("Squash(%d) = %d, not 4095", d, n)
		}
		if n := Squash(-d); n != 1 {
			t.Errorf("Squash(%d) = %d, not 1", -d, n)
		}
	}
	if n := Squash(math.MinInt); n != 1 {
		t.Errorf("Squash of the least int is %d, not 1", n)
	}
}

// least is Stretch as the promise words it: place by place.
func least(all map[int]int, p int) int {
	for d := -2047; d <= 2047; d++ {
		if all[d] >= p {
			return d
		}
	}
	return 2047
}

// P9.2: the least place, for each number that may be a chance and some more on both sides.
func TestStretchIsTheLeastPlace(t *testing.T) {
	all := plain()
	for p := -300; p <= 4400; p++ {
		if d := Stretch(p); d != least(all, p) {
			t.Errorf("Stretch(%d) = %d, not %d", p, d, least(all, p))
		}
	}
}

// P9.2, R1: what no place reaches is the last one, what each reaches the first one, however far.
func TestStretchPastTheEnds(t *testing.T) {
	for _, p := range append([]int{4096}, far[2:]...) {
		want := 2047
		if p == 4095 {
			want = 1984
		}
		if d := Stretch(p); d != want {
			t.Errorf("Stretch(%d) = %d, not %d", p, d, want)
		}
	}
	for _, p := range append([]int{1, 0, -1, -2047, -2048, math.MinInt}, far...) {
		if p > 1 {
			p = -p
		}
		if d := Stretch(p); d != -2047 {
			t.Errorf("Stretch(%d) = %d, not -2047", p, d)
		}
	}
}

// P9.3: neither falls.
func TestNeitherFalls(t *testing.T) {
	for n := -5000; n < 5000; n++ {
		if Squash(n) > Squash(n+1) {
			t.Errorf("Squash falls behind %d", n)
		}
		if Stretch(n) > Stretch(n+1) {
			t.Errorf("Stretch falls behind %d", n)
		}
	}
}

// P9.3: one behind the other.
func TestOneBehindTheOther(t *testing.T) {
	for _, p := range []int{math.MinInt, -1 << 31, -4096, -1} {
		if n := Squash(Stretch(p)); n < p || n != 1 {
			t.Errorf("Squash of Stretch(%d) is %d", p, n)
		}
	}
	for p := 0; p <= 4095; p++ {
		if n := Squash(Stretch(p)); n < p {
			t.Errorf("Squash of Stretch(%d) is %d", p, n)
		}
	}
	for d := -2047; d <= 2047; d++ {
		back := Stretch(Squash(d))
		if back > d || Squash(back) != Squash(d) {
			t.Errorf("Stretch of Squash(%d) is %d", d, back)
		}
	}
}

// R4: asked again, and in another order, both answer the same.
func TestAskedAgain(t *testing.T) {
	squashed, stretched := map[int]int{}, map[int]int{}
	for n := -4500; n <= 4500; n++ {
		squashed[n], stretched[n] = Squash(n), Stretch(n)
	}
	for n := 4500; n >= -4500; n-- {
		if Stretch(n) != stretched[n] || Squash(n) != squashed[n] {
			t.Errorf("another answer for %d", n)
		}
	}
}
