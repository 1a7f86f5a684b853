package syntax

import (
	"math"
	"math/rand"
	"reflect"
	"slices"
	"testing"

	"quillpress/api"
)

// inc, out, halt and low are what the tests are made of.
var (
	inc  = api.Stmt{Kind: api.SPlain, Ins: api.Ins{Op: api.OInc}}
	out  = api.Stmt{Kind: api.SPlain, Ins: api.Ins{Op: api.OOut}}
	halt = api.Stmt{Kind: api.SHalt}
	low  = api.Cond{Ins: api.Ins{Op: api.OLt, S: api.Imm, N: 5}}
)

// some is a list of so many statements.
func some(n int) []api.Stmt {
	return slices.Repeat([]api.Stmt{inc}, n)
}

// body is an SDo with these statements.
func body(l ...api.Stmt) api.Stmt {
	return api.Stmt{Kind: api.SDo, Cond: low, Body: l}
}

// other is an SIf with these behind else.
func other(l ...api.Stmt) api.Stmt {
	return api.Stmt{Kind: api.SIf, Cond: low, Else: l}
}

// both is an SIf with the one list, and the other.
func both(l, o []api.Stmt) api.Stmt {
	return api.Stmt{Kind: api.SIf, Cond: low, Body: l, Else: o}
}

// within is the list within so many others, each in the one that wrap makes.
func within(l []api.Stmt, n int, wrap func(...api.Stmt) api.Stmt) []api.Stmt {
	for range n {
		l = []api.Stmt{wrap(l...)}
	}
	return l
}

// asks asks what Right says, without post and with it, and what Config says of it at both places.
func asks(t *testing.T, l []api.Stmt, code, post bool) {
	t.Helper()
	if a, b := Right(l, false), Right(l, true); a != code || b != post {
		t.Fatalf("Right of %+v: %v, with post %v; not %v, %v", l, a, b, code, post)
	}
	if a, b := Config(api.Config{Code: l}), Config(api.Config{HasPost: true, Post: l}); a != code || b != post {
		t.Fatalf("Config with %+v: %v, as post %v; not %v, %v", l, a, b, code, post)
	}
}

// asksOne asks that of a statement alone, and of one within others.
func asksOne(t *testing.T, s api.Stmt, code, post bool) {
	t.Helper()
	asks(t, []api.Stmt{s}, code, post)
	asks(t, []api.Stmt{inc, body(inc, s), inc}, code, post)
	asks(t, []api.Stmt{both(some(1), []api.Stmt{s})}, code, post)
}

// counts asks what Count says.
func counts(t *testing.T, l []api.Stmt, want int) {
	t.Helper()
	if n := Count(l); n != want {
		t.Fatalf("Count: %d, not %d", n, want)
	}
}

// P19.1: the chapter's examples.
func TestExamples(t *testing.T) {
	asksOne(t, inc, true, true)
	asksOne(t, out, false, true)
	asksOne(t, api.Stmt{Kind: api.SPlain, Ins: api.Ins{Op: api.OJmp}}, false, false)
	asksOne(t, api.Stmt{Kind: api.SHalt, Body: some(1)}, false, false)
	asks(t, within([]api.Stmt{body()}, 19, body), true, true)
	asks(t, within([]api.Stmt{body()}, 20, body), false, false)
}

// P19.1: a program may have no statement at all; and none is as good as an empty list (R6).
func TestNoStatements(t *testing.T) {
	asks(t, nil, true, true)
	asks(t, []api.Stmt{}, true, true)
	counts(t, nil, 0)
	counts(t, []api.Stmt{}, 0)
	for _, none := range [][]api.Stmt{nil, {}, some(3)[:0]} {
		for _, s := range []api.Stmt{inc, halt} {
			s.Body, s.Else = none, none
			asksOne(t, s, true, true)
		}
		asksOne(t, both(none, none), true, true)
		asksOne(t, body(none...), true, true)
		asksOne(t, api.Stmt{Kind: api.SDo, Cond: low, Else: none}, true, true)
	}
}

// P19.1: each Op that a byte can be, with D, S and N near and far, as a plain instruction and as a condition's.
func TestInstructions(t *testing.T) {
	places := []int{math.MinInt, -1 << 32, -256, -1, 0, 1, 2, 3, 4, 5, 6, 7, 8, 255, 256, 1 << 32, math.MaxInt}
	numbers := []int{math.MinInt, -1 << 32, -256, -1, 0, 1, 254, 255, 256, 65535, 65536, 1 << 32, 1<<32 + 1, math.MaxInt}
	for op := range 256 {
		for _, d := range places {
			for _, s := range places {
				for _, n := range numbers {
					i := api.Ins{Op: api.Op(op), D: d, S: s, N: n}
					plain, asked := has(plainRows, i), has(askedRows, i)
					l := []api.Stmt{{Kind: api.SPlain, Ins: i}}
					if a, b := Right(l, false), Right(l, true); a != (plain && op != 26) || b != plain {
						t.Fatalf("plain %+v: %v, with post %v", i, a, b)
					}
					for k, not := range []bool{false, true} {
						for _, kind := range []api.StmtKind{api.SIf, api.SDo} {
							l := []api.Stmt{{Kind: kind, Cond: api.Cond{Not: not, Ins: i}}}
							if a := Right(l, k == 0); a != asked {
								t.Fatalf("condition %+v of kind %d: %v", i, kind, a)
							}
						}
					}
				}
			}
		}
	}
}

// P19.1: which Ops there are, by hand.
func TestOps(t *testing.T) {
	for op := range 256 {
		i := api.Ins{Op: api.Op(op)}
		plain := op >= 1 && op <= 18 || op >= 22 && op <= 26
		asksOne(t, api.Stmt{Kind: api.SPlain, Ins: i}, plain && op != 26, plain)
		for _, c := range []api.Cond{{Ins: i}, {Ins: i, Not: true}} {
			asked := op >= 19 && op <= 21
			asksOne(t, api.Stmt{Kind: api.SIf, Cond: c, Body: some(1)}, asked, asked)
			asksOne(t, api.Stmt{Kind: api.SDo, Cond: c, Body: some(1)}, asked, asked)
		}
	}
}

// P19.1: each kind that a byte can be, with all that a statement may have, each of it there and not there.
func TestKinds(t *testing.T) {
	for kind := range 256 {
		for mask := range 1 << 6 {
			s := api.Stmt{Kind: api.StmtKind(kind)}
			there := func(bit int) bool { return mask>>bit&1 == 1 }
			if there(0) {
				s.Ins = api.Ins{Op: api.OSet, D: 1, S: 2}
			}
			if there(1) {
				s.Cond.Not = true
			}
			if there(2) {
				s.Cond.Ins = low.Ins
			}
			if there(3) {
				s.Body = some(2)
			}
			if there(4) {
				s.Else = some(1)
			}
			if there(5) {
				s.Line = 7
			}
			want := false
			switch kind {
			case 1:
				want = there(0) && !there(1) && !there(2) && !there(3) && !there(4)
			case 2:
				want = !there(0) && there(2)
			case 3:
				want = !there(0) && there(2) && !there(4)
			case 4:
				want = !there(0) && !there(1) && !there(2) && !there(3) && !there(4)
			}
			asksOne(t, s, want, want)
		}
	}
}

// P19.1: each number that a kind does not name is asked by itself.
func TestWhatAKindDoesNotName(t *testing.T) {
	for _, i := range []api.Ins{{Op: 1}, {Op: 255}, {D: 1}, {D: -1}, {S: 1}, {S: api.Imm}, {N: 1}, {N: -1}, {N: 1 << 32}} {
		for _, s := range []api.Stmt{body(inc), both(some(1), some(1)), halt} {
			asksOne(t, s, true, true)
			s.Ins = i
			asksOne(t, s, false, false)
		}
		for _, s := range []api.Stmt{inc, halt} {
			asksOne(t, s, true, true)
			s.Cond.Ins = i
			asksOne(t, s, false, false)
		}
	}
}

// P19.1: a line may be any number.
func TestAnyLine(t *testing.T) {
	for _, n := range []int{0, 1, -1, 16385, 1 << 40, math.MinInt, math.MaxInt} {
		for _, s := range []api.Stmt{inc, body(inc), other(inc), halt} {
			s.Line = n
			asksOne(t, s, true, true)
		}
	}
}

// P19.1: what puts out may do so behind alone, wherever it stands.
func TestOut(t *testing.T) {
	asks(t, []api.Stmt{inc, out}, false, true)
	for _, wrap := range []func(...api.Stmt) api.Stmt{body, other} {
		for n := range 20 {
			asks(t, within([]api.Stmt{inc, out, inc}, n, wrap), false, true)
		}
	}
	asks(t, []api.Stmt{{Kind: api.SPlain, Ins: api.Ins{Op: api.OOut, D: 1}}}, false, false)
	asks(t, []api.Stmt{{Kind: api.SPlain, Ins: api.Ins{Op: api.OOut, N: 1}}}, false, false)
}

// P19.1: 500 statements and one more, in one list, and in lists of all kinds.
func TestHowMany(t *testing.T) {
	for n := 495; n <= 506; n++ {
		for _, l := range [][]api.Stmt{
			some(n),
			{body(some(n - 1)...)},
			{other(some(n - 1)...)},
			append(some(250), body(some(n-251)...)),
			{both(some(200), some(n-201))},
			{body(some(100)...), inc, both(some(100), []api.Stmt{other(some(100)...)}), body(some(n - 305)...)},
			within(some(n-19), 19, body),
			slices.Repeat([]api.Stmt{body()}, n),
		} {
			counts(t, l, n)
			asks(t, l, n <= 500, n <= 500)
		}
	}
	for _, n := range []int{1000, 1 << 16} {
		counts(t, some(n), n)
		asks(t, some(n), false, false)
	}
	// What is beyond the 500th counts, even if it is the only one that is wrong there.
	asks(t, append(some(500), api.Stmt{Kind: 9}), false, false)
	asks(t, append(some(499), api.Stmt{Kind: 9}), false, false)
}

// P19.1: the two programs of a config are counted apart.
func TestEachProgramHasItsOwn(t *testing.T) {
	full, deep := some(500), within(some(1), 19, body)
	if !Config(api.Config{Code: full, Post: full, HasPost: true}) || !Config(api.Config{Code: deep, Post: deep, HasPost: true}) {
		t.Fatal("two full programs were refused")
	}
}

// P19.1: 20 levels and one more, by Body, by Else and by both, with lists that end in empty ones.
func TestHowDeep(t *testing.T) {
	turn := 0
	each := func(l ...api.Stmt) api.Stmt {
		turn++
		if turn%2 == 0 {
			return body(l...)
		}
		return other(l...)
	}
	for _, wrap := range []func(...api.Stmt) api.Stmt{body, other, each} {
		for n := range 30 {
			asks(t, within([]api.Stmt{inc}, n, wrap), n <= 19, n <= 19)
			asks(t, within([]api.Stmt{halt}, n, wrap), n <= 19, n <= 19)
			asks(t, within([]api.Stmt{body()}, n, wrap), n <= 19, n <= 19)
			asks(t, within([]api.Stmt{both([]api.Stmt{}, []api.Stmt{})}, n, wrap), n <= 19, n <= 19)
			asks(t, within([]api.Stmt{}, n, wrap), n <= 20, n <= 20)
			asks(t, append(some(3), within([]api.Stmt{inc}, n, wrap)...), n <= 19, n <= 19)
			asks(t, append(within([]api.Stmt{inc}, n, wrap), inc), n <= 19, n <= 19)
		}
	}
}

// P19.1: one list at the 21st level is enough, whichever of two it is.
func TestTooDeepOnOneSide(t *testing.T) {
	deep, fits := within(some(1), 19, body), within(some(1), 18, body)
	asks(t, []api.Stmt{both(fits, fits)}, true, true)
	asks(t, []api.Stmt{both(deep, fits)}, false, false)
	asks(t, []api.Stmt{both(fits, deep)}, false, false)
	asks(t, []api.Stmt{both(nil, deep)}, false, false)
	asks(t, []api.Stmt{both(deep, nil)}, false, false)
}

// P19.1: Count asks nothing of what it counts, and leaves out what is deeper than 20 levels.
func TestCount(t *testing.T) {
	for n := range 30 {
		counts(t, within(some(5), n, body), min(n, 20)+5*max(0, min(1, 20-n)))
		counts(t, within(some(5), n, other), min(n, 20)+5*max(0, min(1, 20-n)))
		counts(t, within([]api.Stmt{}, n, body), min(n, 20))
	}
	for kind := range 256 {
		s := api.Stmt{Kind: api.StmtKind(kind), Ins: api.Ins{Op: 200, N: -1}, Body: some(3), Else: []api.Stmt{{Body: some(2)}, {}}}
		counts(t, []api.Stmt{s, s}, 16)
	}
	// One is too deep, but others behind it are not.
	counts(t, []api.Stmt{both(within(some(7), 19, body), some(3)), inc}, 2+19+3)
}

// P19.1, R1: lists that hold themselves are refused, and counted down to the 20th level.
func TestListsThatHoldThemselves(t *testing.T) {
	one := []api.Stmt{body()}
	one[0].Body = one
	counts(t, one, 20)
	asks(t, one, false, false)

	two := []api.Stmt{both(nil, nil)}
	two[0].Body, two[0].Else = two, two
	counts(t, two, 1<<20-1)
	asks(t, two, false, false)

	wide := slices.Repeat([]api.Stmt{both(nil, nil)}, 1000)
	for k := range wide {
		wide[k].Body, wide[k].Else = wide, wide
	}
	asks(t, wide, false, false)

	turned := []api.Stmt{other()}
	turned[0].Else = []api.Stmt{body(turned...), inc}
	turned[0].Else[0].Body = turned
	counts(t, turned, 10+20)
	asks(t, turned, false, false)
}

// P19.1: one list at several places counts at each of them.
func TestSharedLists(t *testing.T) {
	l := some(100)
	counts(t, []api.Stmt{both(l, l), both(l, l)}, 402)
	asks(t, []api.Stmt{both(l, l), both(l, l), body(l[:97]...)}, true, true)
	asks(t, []api.Stmt{both(l, l), both(l, l), body(l[:98]...)}, false, false)
}

// P19.2: what may stand in a config with a second program, and without one.
func TestConfig(t *testing.T) {
	for _, x := range []struct {
		c  api.Config
		ok bool
	}{
		{api.Config{}, true},
		{api.Config{HasPost: true}, true},
		{api.Config{Code: some(2)}, true},
		{api.Config{Code: some(2), Post: []api.Stmt{}}, true},
		{api.Config{Code: some(2), Post: some(1)}, false},
		{api.Config{Code: some(2), Post: some(1), HasPost: true}, true},
		{api.Config{Post: []api.Stmt{out}}, false},
		{api.Config{Post: []api.Stmt{out}, HasPost: true}, true},
		{api.Config{Code: []api.Stmt{out}, HasPost: true}, false},
		{api.Config{Code: []api.Stmt{out}, Post: []api.Stmt{out}, HasPost: true}, false},
		{api.Config{Code: some(500), Post: some(500), HasPost: true}, true},
		{api.Config{Code: some(501), Post: some(500), HasPost: true}, false},
		{api.Config{Code: some(500), Post: some(501), HasPost: true}, false},
		{api.Config{Code: []api.Stmt{{}}, HasPost: true}, false},
		{api.Config{Post: []api.Stmt{{}}, HasPost: true}, false},
		{api.Config{Code: []api.Stmt{{}}}, false},
		{api.Config{Code: within(some(1), 20, body)}, false},
		{api.Config{HasPost: true, Post: within(some(1), 20, other)}, false},
	} {
		if ok := Config(x.c); ok != x.ok {
			t.Errorf("%+v: %v", x.c, ok)
		}
	}
}

// P19.2: numbers are asked only where there is no second program; and parts nowhere.
func TestConfigNumbers(t *testing.T) {
	numbers := []int{0, 1, -1, 8, 9, 12, 13, 1 << 32, -1 << 32, math.MinInt, math.MaxInt}
	parts := [][]api.Part{nil, {{Kind: api.PConst}}, {{Kind: 77, Size: -1}}, make([]api.Part, 300)}
	for _, ph := range numbers {
		for _, pm := range numbers {
			for _, n := range numbers {
				for k, l := range parts {
					c := api.Config{H: n, M: -n, PH: ph, PM: pm, Parts: l, Code: some(k)}
					if ok := Config(c); ok != (ph == 0 && pm == 0) {
						t.Fatalf("%+v: %v", c, ok)
					}
					c.H, c.M, c.HasPost, c.Post = -n, n, true, some(k)
					if !Config(c) {
						t.Fatalf("%+v was refused", c)
					}
				}
			}
		}
	}
}

// lists tells all lists of a tree, itself the first.
func lists(l []api.Stmt, tell func([]api.Stmt)) {
	tell(l)
	for _, s := range l {
		lists(s.Body, tell)
		lists(s.Else, tell)
	}
}

// P19.1 to P19.3: chance trees, right and nearly right, wide, deep and with too many, against the words; what is within a right one is right.
func TestChanceTrees(t *testing.T) {
	m := newMaker(19)
	seen := map[[2]bool]int{}
	for round := range 6000 {
		m.left, m.outs = 10+m.r.Intn(600), m.r.Intn(2) == 0
		l := m.tree(1+m.r.Intn(9), 1+m.r.Intn(23))
		for range m.r.Intn(2) * m.r.Intn(4) {
			if s := m.pick(l); s != nil {
				m.spoil(s)
			}
		}
		code, post := mayBe(l, false), mayBe(l, true)
		seen[[2]bool{code, post}]++
		asks(t, l, code, post)
		counts(t, l, howMany(l))
		if code && !post {
			t.Fatalf("round %d: right as code alone: %+v", round, l)
		}
		if post {
			lists(l, func(x []api.Stmt) {
				if !Right(x, true) || Right(x, false) != mayBe(x, false) || code && !Right(x, false) {
					t.Fatalf("round %d: %+v is within a right list", round, x)
				}
			})
		}
		c := api.Config{Code: l, PH: m.r.Intn(2), PM: m.r.Intn(2), HasPost: m.r.Intn(2) == 0}
		if m.r.Intn(2) == 0 {
			m.left = 500
			c.Post = m.tree(3, 20)
		}
		want := code && mayBe(c.Post, true) && (c.HasPost || len(c.Post)+c.PH+c.PM == 0)
		if ok := Config(c); ok != want {
			t.Fatalf("round %d: Config %v, not %v: %+v", round, ok, want, c)
		}
	}
	for _, k := range [][2]bool{{false, false}, {false, true}, {true, true}} {
		if seen[k] < 600 {
			t.Errorf("only %d trees of the kind %v", seen[k], k)
		}
	}
}

// P19.3: each beginning of a right list, and each of its lists, is right.
func TestWhatFollows(t *testing.T) {
	m := newMaker(20)
	for range 2000 {
		m.left, m.outs = 500, m.r.Intn(2) == 0
		l := m.tree(8, 20)
		if !Right(l, true) || !m.outs && !Right(l, false) {
			t.Fatalf("%+v was refused", l)
		}
		n := 0
		lists(l, func(x []api.Stmt) {
			n += len(x)
			for k := range x {
				if !Right(x[:k], true) || !Right(x[k:], true) {
					t.Fatalf("a part of %+v was refused", x)
				}
			}
		})
		counts(t, l, n)
	}
}

// deep is a copy of a tree that shares no memory with it.
func deep(l []api.Stmt) []api.Stmt {
	c := slices.Clone(l)
	for k := range c {
		c[k].Body, c[k].Else = deep(c[k].Body), deep(c[k].Else)
	}
	return c
}

// R3, R4: nothing that is handed in changes, spare room neither, which is not asked; and the same is told again.
func TestHandedIn(t *testing.T) {
	m := newMaker(21)
	r := rand.New(rand.NewSource(22))
	for range 500 {
		m.left, m.outs = 100, m.r.Intn(2) == 0
		room := append(m.tree(8, 5), api.Stmt{Kind: 9}, api.Stmt{Body: some(600)})
		was := deep(room)
		for n := range room {
			l := room[:n]
			ok, k, post := Right(l, true), Count(l), r.Intn(2) == 0
			c := api.Config{Code: l, Post: l, HasPost: post}
			said := Config(c)
			own := slices.Clip(deep(l))
			if Right(own, true) != ok || Count(own) != k || Config(api.Config{Code: own, Post: own, HasPost: post}) != said {
				t.Fatalf("with spare room it is another answer: %+v", l)
			}
		}
		if !reflect.DeepEqual(room, was) {
			t.Fatalf("%+v became %+v", was, room)
		}
	}
}

func BenchmarkRight(b *testing.B) {
	l := within(some(481), 19, body)
	b.ReportAllocs()
	for b.Loop() {
		Right(l, true)
	}
}

func BenchmarkCount(b *testing.B) {
	two := []api.Stmt{both(nil, nil)}
	two[0].Body, two[0].Else = two, two
	b.ReportAllocs()
	for b.Loop() {
		Count(two)
	}
}
