package parts

import (
	"math"
	"slices"
	"testing"

	"quillpress/api"
)

// field is the place of a number in a row: the fields of a part behind its kind, in their order.
const (
	size = iota
	a
	b
	c
	rate
	limit
)

// row is a line of the chapter's table: the least and the greatest number of each field, and how many places a part has: by times 2^Size, and more.
type row struct {
	least, most [6]int
	by, more    int
}

// line is what the table has of a kind for a part that stands at a place and has this B; false of a kind that is none.
func line(k api.PartKind, place, B int) (row, bool) {
	before := place - 1
	switch k {
	case 1:
		return row{least: [6]int{c: -2047}, most: [6]int{c: 2047}}, true
	case 2:
		return row{[6]int{limit: 1}, [6]int{size: 16, limit: 1023}, 1, 0}, true
	case 3:
		return row{[6]int{}, [6]int{size: 16}, 1, 256}, true
	case 4:
		return row{[6]int{size: 4}, [6]int{size: 16}, 2, 0}, true
	case 5:
		return row{most: [6]int{a: before, b: before, c: 256}}, true
	case 6:
		return row{[6]int{rate: 1}, [6]int{size: 16, a: before, b: before, rate: 64}, 1, 0}, true
	case 7:
		return row{[6]int{b: 1, rate: 1}, [6]int{size: 12, a: place - B, b: 8, rate: 64}, B, 0}, true
	case 8:
		return row{[6]int{}, [6]int{size: 16, a: before}, 1, 512}, true
	case 9:
		return row{[6]int{limit: 1}, [6]int{size: 10, a: before, limit: 1023}, 32, 0}, true
	}
	return row{}, false
}

// part has these fields.
func part(k api.PartKind, f [6]int) api.Part {
	return api.Part{Kind: k, Size: f[size], A: f[a], B: f[b], C: f[c], Rate: f[rate], Limit: f[limit]}
}

// allowed is what the chapter's table says of a part at a place.
func allowed(k api.PartKind, f [6]int, place int) bool {
	r, ok := line(k, place, f[b])
	for i, n := range f {
		ok = ok && n >= r.least[i] && n <= r.most[i]
	}
	return ok
}

// places is how many the chapter's table says that a part has.
func places(k api.PartKind, f [6]int) int {
	r, ok := line(k, 15, f[b])
	if !ok || r.by == 0 || f[size] < r.least[size] || f[size] > r.most[size] || k == api.PMix && (f[b] < 1 || f[b] > 8) {
		return 0
	}
	n := r.by
	for range f[size] {
		n += n
	}
	return n + r.more
}

// least is a right part of a kind at any place but the first one: each field the least that may be.
func least(k api.PartKind) [6]int {
	r, _ := line(k, 1, 1)
	return r.least
}

// behind is a list whose last part is p at this place, with nothing but constants ahead.
func behind(place int, p api.Part) []api.Part {
	l := make([]api.Part, place, place+1)
	for i := range l {
		l[i].Kind = api.PConst
	}
	return append(l, p)
}

// far are numbers beyond all ranges, whose sums and shifts would wrap.
var far = []int{math.MinInt, math.MinInt + 1, math.MinInt + 8, -1 << 62, -1 << 32, -1<<32 + 1, -1 << 31, -65536, -256, -64, -63, -16, 63, 64, 65, 255, 256, 1 << 16, 1 << 31, 1 << 32, 1<<32 + 1, 1<<32 + 4, 1 << 62, math.MaxInt - 8, math.MaxInt - 1, math.MaxInt}

// edges are numbers on both sides of each range's ends.
var edges = []int{-2048, -2047, -1, 0, 1, 2, 3, 4, 5, 7, 8, 9, 10, 11, 12, 13, 14, 15, 16, 17, 63, 64, 65, 255, 256, 257, 1022, 1023, 1024, 2046, 2047, 2048}

// check holds what Right says of p at this place against the table.
func check(t *testing.T, k api.PartKind, f [6]int, place int) {
	t.Helper()
	want := api.ErrPart
	if allowed(k, f, place) {
		want = api.OK
	}
	if e := Right(behind(place, part(k, f))); e != want {
		t.Fatalf("kind %d with %v at %d: %d, not %d", k, f, place, e, want)
	}
}

// P11.1, P11.2: the chapter's examples.
func TestExamples(t *testing.T) {
	five := api.Part{Kind: api.PConst, C: 5}
	cm := api.Part{Kind: api.PCm, Size: 8, Limit: 255}
	for i, x := range []struct {
		l []api.Part
		e api.Errno
	}{
		{[]api.Part{five}, api.OK},
		{[]api.Part{{Kind: api.PAvg}}, api.ErrPart},
		{[]api.Part{cm, {Kind: api.PMix, Size: 4, B: 1, Rate: 8}}, api.OK},
		{[]api.Part{cm, {Kind: api.PMix, Size: 4, B: 2, Rate: 8}}, api.ErrPart},
		{[]api.Part{}, api.ErrPart},
		{nil, api.ErrPart},
	} {
		if e := Right(x.l); e != x.e {
			t.Errorf("example %d: %d, not %d", i, e, x.e)
		}
	}
	if n := Memory([]api.Part{cm, {Kind: api.PMix, Size: 4, B: 1, Rate: 8}}); n != 256+16 {
		t.Errorf("Memory is %d", n)
	}
	if n := Places(api.Part{Kind: api.PSse, Size: 3}); n != 256 {
		t.Errorf("Places is %d", n)
	}
}

// P11.1: the least and the greatest tables of each kind, and what lies past them.
func TestPlacesAtTheEdges(t *testing.T) {
	for _, x := range []struct {
		k          api.PartKind
		size, b, n int
	}{
		{api.PConst, 0, 0, 0}, {api.PConst, 3, 1, 0}, {api.PAvg, 0, 0, 0}, {api.PAvg, 3, 1, 0},
		{api.PCm, -1, 0, 0}, {api.PCm, 0, 0, 1}, {api.PCm, 16, 0, 65536}, {api.PCm, 17, 0, 0},
		{api.PIcm, -1, 0, 0}, {api.PIcm, 0, 0, 257}, {api.PIcm, 16, 0, 65792}, {api.PIcm, 17, 0, 0},
		{api.PMatch, 0, 0, 0}, {api.PMatch, 3, 0, 0}, {api.PMatch, 4, 0, 32}, {api.PMatch, 16, 0, 131072}, {api.PMatch, 17, 0, 0},
		{api.PMix2, -1, 0, 0}, {api.PMix2, 0, 0, 1}, {api.PMix2, 16, 0, 65536}, {api.PMix2, 17, 0, 0},
		{api.PMix, -1, 1, 0}, {api.PMix, 0, 1, 1}, {api.PMix, 0, 8, 8}, {api.PMix, 12, 8, 32768}, {api.PMix, 13, 8, 0},
		{api.PMix, 4, -1, 0}, {api.PMix, 4, 0, 0}, {api.PMix, 4, 1, 16}, {api.PMix, 4, 3, 48}, {api.PMix, 4, 8, 128}, {api.PMix, 4, 9, 0},
		{api.PIsse, -1, 0, 0}, {api.PIsse, 0, 0, 513}, {api.PIsse, 16, 0, 66048}, {api.PIsse, 17, 0, 0},
		{api.PSse, -1, 0, 0}, {api.PSse, 0, 0, 32}, {api.PSse, 10, 0, 32768}, {api.PSse, 11, 0, 0},
		{0, 4, 1, 0}, {10, 4, 1, 0}, {255, 4, 1, 0},
	} {
		if n := Places(api.Part{Kind: x.k, Size: x.size, B: x.b}); n != x.n {
			t.Errorf("Places of kind %d, Size %d, B %d: %d, not %d", x.k, x.size, x.b, n, x.n)
		}
	}
}

// P11.1, R1: each kind that a byte can be, each Size and each B, near and far.
func TestPlaces(t *testing.T) {
	numbers := append(slices.Clone(edges), far...)
	for k := range 256 {
		for _, s := range numbers {
			for _, n := range numbers {
				f := [6]int{size: s, b: n}
				p := part(api.PartKind(k), f)
				want := places(p.Kind, f)
				if got := Places(p); got != want {
					t.Fatalf("Places of %+v: %d, not %d", p, got, want)
				}
				if got := Memory([]api.Part{p}); got != want {
					t.Fatalf("Memory of %+v: %d, not %d", p, got, want)
				}
			}
		}
	}
}

// P11.1: what a part's places do not hang on is not asked.
func TestPlacesOfWhatIsNotRight(t *testing.T) {
	for k := api.PConst; k <= api.PSse; k++ {
		f := least(k)
		want := places(k, f)
		for _, i := range []int{a, c, rate, limit} {
			for _, n := range append(slices.Clone(edges), far...) {
				g := f
				g[i] = n
				if got := Places(part(k, g)); got != want {
					t.Fatalf("Places of kind %d with %v: %d, not %d", k, g, got, want)
				}
			}
		}
	}
}

// P11.1: Memory is all places together, of lists that are right or not, of any length.
func TestMemory(t *testing.T) {
	if n := Memory(nil) + Memory([]api.Part{}); n != 0 {
		t.Errorf("Memory of nothing: %d", n)
	}
	var l []api.Part
	sum := 0
	for i := range 3000 {
		f := [6]int{size: i%19 - 1, b: i % 10}
		k := api.PartKind(i % 11)
		l, sum = append(l, part(k, f)), sum+places(k, f)
		if n := Memory(l); n != sum {
			t.Fatalf("Memory of %d parts: %d, not %d", len(l), n, sum)
		}
	}
	if sum <= api.MaxMemory {
		t.Errorf("no more than %d in all", sum)
	}
}

// P11.2: each field of each kind, at each place, from its least part on: on both sides of each edge, and far off.
func TestEachField(t *testing.T) {
	for k := range api.PartKind(12) {
		for place := range 16 {
			f := least(k)
			check(t, k, f, place)
			for i := range f {
				for _, n := range append(slices.Clone(edges), far...) {
					g := f
					g[i] = n
					check(t, k, g, place)
				}
			}
		}
	}
}

// P11.2: fields together, as far as their ranges turn there.
func TestFieldsTogether(t *testing.T) {
	for k := range api.PartKind(11) {
		for _, place := range []int{0, 1, 3, 15} {
			for _, s := range []int{-1, 0, 3, 4, 10, 11, 12, 13, 16, 17} {
				for _, x := range []int{-1, 0, 2, 3, 7, 8} {
					for _, y := range []int{-1, 0, 1, 2, 3, 8, 9} {
						for _, z := range []int{-2047, 0, 256, 257} {
							for _, w := range [][2]int{{0, 0}, {1, 0}, {64, 0}, {65, 0}, {0, 1}, {0, 1023}, {0, 1024}, {1, 1}} {
								check(t, k, [6]int{s, x, y, z, w[0], w[1]}, place)
							}
						}
					}
				}
			}
		}
	}
}

// P11.2: a mix's parts end at its own place at most, and none of its numbers wraps.
func TestMixEndsAtItsPlace(t *testing.T) {
	numbers := append([]int{-9, -8, -1}, far...)
	for n := range 18 {
		numbers = append(numbers, n)
	}
	for place := range 16 {
		right := 0
		for _, x := range numbers {
			for _, y := range numbers {
				f := [6]int{a: x, b: y, rate: 1}
				check(t, api.PMix, f, place)
				if allowed(api.PMix, f, place) {
					right++
				}
			}
		}
		want := 0
		for n := 1; n <= min(8, place); n++ {
			want += place - n + 1
		}
		if right != want {
			t.Errorf("%d mixes at %d, not %d", right, place, want)
		}
	}
}

// P11.2: of the kinds that a byte can be nine are some.
func TestKinds(t *testing.T) {
	for k := range 256 {
		kind := api.PartKind(k)
		want := api.ErrPart
		if k >= 1 && k <= 9 {
			want = api.OK
		}
		if e := Right(behind(1, part(kind, least(kind)))); e != want {
			t.Errorf("kind %d: %d, not %d", k, e, want)
		}
	}
}

// P11.2: 1 to 16 parts.
func TestHowMany(t *testing.T) {
	for n := range 40 {
		want := api.OK
		if n < 1 || n > 16 {
			want = api.ErrPart
		}
		if e := Right(behind(n, api.Part{})[:n]); e != want {
			t.Errorf("%d parts: %d, not %d", n, e, want)
		}
	}
	if e := Right(behind(1<<16, api.Part{Kind: api.PConst})); e != api.ErrPart {
		t.Errorf("65537 parts: %d", e)
	}
}

// P11.2: each place of a list is asked, not the last one alone.
func TestAnyPlace(t *testing.T) {
	for i := range 16 {
		l := behind(15, api.Part{Kind: api.PConst})
		for _, bad := range []api.Part{{}, {Kind: 10}, {Kind: api.PConst, C: 2048}, {Kind: api.PCm, Limit: 1, Rate: 1}, {Kind: api.PIsse, A: i}, {Kind: api.PAvg, A: i}, {Kind: api.PAvg, B: i}, {Kind: api.PMix, A: i, B: 1, Rate: 1}} {
			l[i] = bad
			if e := Right(l); e != api.ErrPart {
				t.Errorf("%+v at %d: %d", bad, i, e)
			}
		}
	}
}

// matches are eight parts that have 2^20 places together.
func matches() []api.Part {
	return slices.Repeat([]api.Part{{Kind: api.PMatch, Size: 16}}, 8)
}

// P11.2: 2^20 places are right, one more is not; what is no part comes ahead of that.
func TestMostMemory(t *testing.T) {
	one := api.Part{Kind: api.PCm, Limit: 1}
	for i, x := range []struct {
		l []api.Part
		n int
		e api.Errno
	}{
		{matches(), 1 << 20, api.OK},
		{append(matches(), api.Part{Kind: api.PConst}, api.Part{Kind: api.PAvg}), 1 << 20, api.OK},
		{append(matches(), one), 1<<20 + 1, api.ErrMemory},
		{append([]api.Part{one}, matches()...), 1<<20 + 1, api.ErrMemory},
		{append(matches(), matches()...), 1 << 21, api.ErrMemory},
		{append(matches(), api.Part{Kind: api.PCm}), 1<<20 + 1, api.ErrPart},
		{append(matches(), one, api.Part{}), 1<<20 + 1, api.ErrPart},
		{append([]api.Part{{Kind: api.PConst, Size: 1}}, append(matches(), one)...), 1<<20 + 1, api.ErrPart},
		{append(append(matches(), matches()...), one), 1<<21 + 1, api.ErrPart},
	} {
		if e, n := Right(x.l), Memory(x.l); e != x.e || n != x.n {
			t.Errorf("list %d: %d with %d places, not %d with %d", i, e, n, x.e, x.n)
		}
	}
}

// P11.2: behind tables that fill the memory no kind may stand that has any.
func TestMemoryOfEachKind(t *testing.T) {
	for k := api.PConst; k <= api.PSse; k++ {
		want := api.ErrMemory
		if k == api.PConst || k == api.PAvg {
			want = api.OK
		}
		if e := Right(append(matches(), part(k, least(k)))); e != want {
			t.Errorf("kind %d behind 2^20 places: %d, not %d", k, e, want)
		}
	}
}

// P11.3: four kinds may be the first part, whatever their fields are.
func TestFirst(t *testing.T) {
	firsts := map[api.PartKind]int{}
	for k := range api.PartKind(12) {
		for _, s := range []int{-1, 0, 4, 12} {
			for x := -9; x <= 9; x++ {
				for y := -9; y <= 9; y++ {
					for _, w := range [][2]int{{0, 0}, {1, 0}, {0, 1}} {
						if Right([]api.Part{part(k, [6]int{s, x, y, 0, w[0], w[1]})}) == api.OK {
							firsts[k]++
						}
					}
				}
			}
		}
	}
	for k := range api.PartKind(12) {
		if may := k >= api.PConst && k <= api.PMatch; may != (firsts[k] > 0) {
			t.Errorf("kind %d may be the first one %d times", k, firsts[k])
		}
	}
}

// all is a right list with each kind, of sixteen parts.
func all() []api.Part {
	return []api.Part{
		{Kind: api.PCm, Size: 16, Limit: 1023}, {Kind: api.PConst, C: -2047}, {Kind: api.PIcm, Size: 16}, {Kind: api.PMatch, Size: 16},
		{Kind: api.PAvg, A: 3, B: 0, C: 256}, {Kind: api.PMix2, Size: 16, A: 4, B: 4, Rate: 64}, {Kind: api.PMix, Size: 12, A: 0, B: 6, Rate: 1},
		{Kind: api.PIsse, Size: 16, A: 6}, {Kind: api.PSse, Size: 10, A: 7, Limit: 1}, {Kind: api.PMix, Size: 0, A: 1, B: 8, Rate: 64},
		{Kind: api.PMix, Size: 3, A: 9, B: 1, Rate: 9}, {Kind: api.PAvg, A: 10, B: 10}, {Kind: api.PIsse, A: 0},
		{Kind: api.PConst, C: 2047}, {Kind: api.PMatch, Size: 4}, {Kind: api.PMix, Size: 2, A: 7, B: 8, Rate: 2},
	}
}

// P11.3: a beginning of a right list is right, but for none.
func TestBeginnings(t *testing.T) {
	for _, l := range [][]api.Part{all(), matches()} {
		for n := range len(l) + 1 {
			want := api.OK
			if n == 0 {
				want = api.ErrPart
			}
			if e := Right(l[:n]); e != want {
				t.Errorf("%d of %d parts: %d, not %d", n, len(l), e, want)
			}
		}
	}
}

// R3: a list is as it was, its spare room too.
func TestNothingIsChanged(t *testing.T) {
	l := all()
	for n := range len(l) + 1 {
		Right(l[:n])
		Memory(l[:n])
	}
	if !slices.Equal(l, all()) {
		t.Errorf("changed to %v", l)
	}
}

// R4: asked again, behind lists that are not right, all answer the same.
func TestAskedAgain(t *testing.T) {
	e, n := Right(all()), Memory(all())
	for _, l := range [][]api.Part{nil, matches(), append(matches(), matches()...), {{Kind: 77}}} {
		Right(l)
		Memory(l)
		if Right(all()) != e || Memory(all()) != n {
			t.Errorf("another answer behind %v", l)
		}
	}
	if e != api.OK {
		t.Errorf("a right list: %d", e)
	}
}
