package syntax

import (
	"math/rand"

	"quillpress/api"
)

// opRow is a line of instructions, written out once more without package code: the Ops it is for, and the greatest D, S and N of each; with imm that S is the only one.
type opRow struct {
	from, to api.Op
	d, s, n  int
	imm      bool
}

// plainRows are all plain instructions of a program that comes behind.
var plainRows = []opRow{
	{from: 1, to: 1, d: 6, s: 6},
	{from: 2, to: 2, d: 6, n: 255},
	{from: 3, to: 7, d: 6},
	{from: 8, to: 18, s: 6},
	{from: 8, to: 18, s: 7, n: 255, imm: true},
	{from: 22, to: 22, d: 3, n: 255},
	{from: 23, to: 23, n: 255},
	{from: 24, to: 26},
}

// askedRows are all instructions that a condition may have.
var askedRows = []opRow{
	{from: 19, to: 21, s: 6},
	{from: 19, to: 21, s: 7, n: 255, imm: true},
}

// has tells whether one of the rows has i.
func has(rows []opRow, i api.Ins) bool {
	for _, r := range rows {
		if i.Op < r.from || i.Op > r.to || i.D < 0 || i.D > r.d || i.S < 0 || i.S > r.s || i.N < 0 || i.N > r.n {
			continue
		}
		if !r.imm || i.S == r.s {
			return true
		}
	}
	return false
}

// list tells the right instructions of the rows.
func list(rows []opRow) []api.Ins {
	var l []api.Ins
	for _, r := range rows {
		for op := r.from; op <= r.to; op++ {
			for d := 0; d <= r.d; d++ {
				for s := 0; s <= r.s; s++ {
					for n := 0; n <= r.n; n++ {
						if !r.imm || s == r.s {
							l = append(l, api.Ins{Op: op, D: d, S: s, N: n})
						}
					}
				}
			}
		}
	}
	return l
}

// levels are the statements of l one level behind the other, down to so many.
func levels(l []api.Stmt, most int) [][]api.Stmt {
	var out [][]api.Stmt
	for len(l) > 0 && len(out) < most {
		out = append(out, l)
		var below []api.Stmt
		for _, s := range l {
			below = append(append(below, s.Body...), s.Else...)
		}
		l = below
	}
	return out
}

// fits tells whether s is right, whatever those within it are.
func fits(s api.Stmt, post bool) bool {
	none := api.Stmt{Kind: s.Kind}
	switch s.Kind {
	case 1:
		none.Ins = s.Ins
		if !has(plainRows, s.Ins) || s.Ins.Op == 26 && !post {
			return false
		}
	case 2:
		none.Cond, none.Body, none.Else = s.Cond, s.Body, s.Else
	case 3:
		none.Cond, none.Body = s.Cond, s.Body
	case 4:
	default:
		return false
	}
	if (s.Kind == 2 || s.Kind == 3) && !has(askedRows, s.Cond.Ins) {
		return false
	}
	return s.Ins == none.Ins && s.Cond == none.Cond && len(s.Body) == len(none.Body) && len(s.Else) == len(none.Else)
}

// mayBe tells what Right says of a tree that ends.
func mayBe(l []api.Stmt, post bool) bool {
	n := 0
	all := levels(l, 1000)
	for _, level := range all {
		for _, s := range level {
			n++
			if !fits(s, post) {
				return false
			}
		}
	}
	return n <= 500 && len(all) <= 20
}

// howMany tells what Count says of a tree that ends.
func howMany(l []api.Stmt) int {
	n := 0
	for _, level := range levels(l, 20) {
		n += len(level)
	}
	return n
}

// maker makes chance trees.
type maker struct {
	r     *rand.Rand
	plain []api.Ins
	asked []api.Ins
	left  int  // how many statements it may still make
	outs  bool // whether some of them put out
}

// newMaker is one of this seed.
func newMaker(seed int64) *maker {
	// The last one of the rows is what puts out.
	plain := list(plainRows)
	return &maker{r: rand.New(rand.NewSource(seed)), plain: plain[:len(plain)-1], asked: list(askedRows)}
}

// ins is a plain instruction.
func (m *maker) ins() api.Ins {
	if m.outs && m.r.Intn(6) == 0 {
		return api.Ins{Op: api.OOut}
	}
	return m.plain[m.r.Intn(len(m.plain))]
}

// cond is a condition.
func (m *maker) cond() api.Cond {
	return api.Cond{Not: m.r.Intn(2) == 0, Ins: m.asked[m.r.Intn(len(m.asked))]}
}

// tree is a list of so many statements at most, nested at most so deep, which is right with post as long as there are few and it is not too deep.
func (m *maker) tree(wide, deep int) []api.Stmt {
	var l []api.Stmt
	if deep == 0 {
		return nil
	}
	for range m.r.Intn(wide + 1) {
		if m.left == 0 {
			break
		}
		m.left--
		s := api.Stmt{Kind: api.StmtKind(1 + m.r.Intn(4)), Line: m.r.Intn(3)}
		switch s.Kind {
		case api.SPlain:
			s.Ins = m.ins()
		case api.SIf:
			s.Cond, s.Body, s.Else = m.cond(), m.tree(wide, deep-1), m.tree(wide, deep-1)
		case api.SDo:
			s.Cond, s.Body = m.cond(), m.tree(wide, deep-1)
		}
		l = append(l, s)
	}
	return l
}

// pick is one of the tree's statements; none, if it has none.
func (m *maker) pick(l []api.Stmt) *api.Stmt {
	if len(l) == 0 {
		return nil
	}
	s := &l[m.r.Intn(len(l))]
	within := s.Body
	if m.r.Intn(2) == 0 {
		within = s.Else
	}
	if m.r.Intn(3) == 0 {
		return s
	}
	if deeper := m.pick(within); deeper != nil {
		return deeper
	}
	return s
}

// spoil changes one thing of a statement, perhaps to what is right too.
func (m *maker) spoil(s *api.Stmt) {
	near := m.r.Intn(12) - 2
	switch m.r.Intn(12) {
	case 0:
		s.Kind = api.StmtKind(m.r.Intn(6))
	case 1:
		s.Ins.Op = api.Op(m.r.Intn(33))
	case 2:
		s.Ins.D = near
	case 3:
		s.Ins.S = near
	case 4:
		s.Ins.N = near + 250*m.r.Intn(2)
	case 5:
		s.Cond.Not = !s.Cond.Not
	case 6:
		s.Cond.Ins.Op = api.Op(m.r.Intn(33))
	case 7:
		s.Cond.Ins.S = near
	case 8:
		s.Cond.Ins.N = near + 250*m.r.Intn(2)
	case 9:
		s.Cond.Ins.D = near
	case 10:
		s.Body, s.Else = s.Else, s.Body
	case 11:
		s.Line = near * 1000
	}
}
