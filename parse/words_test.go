package parse

import (
	"math/rand"
	"strconv"
	"strings"

	"quillpress/api"
	"quillpress/lex"
)

// grammarOf is the chapter's grammar once more: a line for each thing, its ways parted by semicolons; n is a number of an instruction.
const grammarOf = `text: model N N { parts } code block tail
tail: ; post N N block
parts: ; part parts
part: const N; const minus N; cm N N; icm N; match N; avg N N N; pair N N N N; mix N N N N; isse N N; sse N N N
block: { stmts }
stmts: ; stmt stmts
reg: a; b; c; d
place: reg; * b; * c; * d
operand: place; n
test: a == operand; a < operand; a > operand
cond: test; not test
op: +=; -=; *=; /=; %=; &=; &~=; |=; ^=; <<=; >>=
stmt: halt; hash; hashd; out; zero place; swap place; ~ place; r n = a; place ++; place --; place = place; place = n; reg = r n; a op operand; if cond block other; do block while cond
other: ; else block`

// grammar is that by its things.
var grammar = func() map[string][][]string {
	g := map[string][][]string{}
	for _, line := range strings.Split(grammarOf, "\n") {
		name, ways, _ := strings.Cut(line, ":")
		for _, way := range strings.Split(ways, ";") {
			g[name] = append(g[name], strings.Fields(way))
		}
	}
	return g
}()

// awaited is what may still come: this, then what is beneath it.
type awaited struct {
	what    string
	beneath *awaited
	open    int // how many blocks are to be closed, this among them
}

// await lays what upon l.
func await(l *awaited, what ...string) *awaited {
	for i := len(what) - 1; i >= 0; i-- {
		next := &awaited{what: what[i], beneath: l}
		if l != nil {
			next.open = l.open
		}
		if what[i] == "}" {
			next.open++
		}
		l = next
	}
	return l
}

// fits tells whether t is what a text has where what, which is no thing of the grammar, stands.
func fits(what string, t api.Token) bool {
	switch what {
	case "N", "n":
		return t.Kind == api.TNum
	case "end":
		return t.Kind == api.TEnd
	}
	return (t.Kind == api.TWord || t.Kind == api.TSign) && t.S == what
}

// told keeps what may tells: the grammar is small, and asked often.
var told = map[[2]string]bool{}

// may tells whether what may begin with t. (Nothing that may be empty begins a way.)
func may(what string, t api.Token) bool {
	ways, thing := grammar[what]
	if !thing {
		return fits(what, t)
	}
	key := [2]string{what, strconv.Itoa(int(t.Kind)) + t.S}
	yes, known := told[key]
	if !known {
		for _, way := range ways {
			yes = yes || len(way) > 0 && may(way[0], t)
		}
		told[key] = yes
	}
	return yes
}

// met is what the awaited things may have been, when a token came.
type met struct {
	now   []*awaited
	small bool // it is a number of an instruction
	deep  int  // it begins a statement, so deep; else 0
}

// meet tells in which ways t may stand where l is awaited.
func (m *met) meet(l *awaited, t api.Token, deep int) {
	if ways, thing := grammar[l.what]; thing {
		if l.what == "stmt" {
			deep = l.open
		}
		for _, way := range ways {
			if len(way) == 0 || may(way[0], t) {
				m.meet(await(l.beneath, way...), t, deep)
			}
		}
		return
	}
	if fits(l.what, t) {
		m.now = append(m.now, l.beneath)
		m.small = m.small || l.what == "n"
		m.deep = max(m.deep, deep)
	}
}

// wordsFault is the fault of a text: it follows all ways of the grammar at once.
func wordsFault(text string) api.Fault {
	l, f := lex.Tokens(text)
	if f.Err != 0 {
		return f
	}
	now := []*awaited{await(nil, "text", "end")}
	count := 0
	for _, t := range l {
		m := met{}
		for _, w := range now {
			if w != nil {
				m.meet(w, t, 0)
			}
		}
		now = m.now
		if t.S == "code" || t.S == "post" {
			count = 0
		}
		if m.deep > 0 {
			count++
		}
		switch {
		case len(now) == 0:
			return api.Fault{Err: api.ErrSyntax, Line: t.Line}
		case m.deep > 20 || count > 500:
			return api.Fault{Err: api.ErrLong, Line: t.Line}
		case m.small && t.N > 255:
			return api.Fault{Err: api.ErrRange, Line: t.Line}
		}
	}
	return api.Fault{}
}

// forms are the instructions by their Op, as a text says them: D a place, S an operand, N a number.
var forms = [31]string{
	1: "D = S", 2: "D = N", 3: "D ++", 4: "D --", 5: "~ D", 6: "zero D", 7: "swap D",
	8: "a += S", 9: "a -= S", 10: "a *= S", 11: "a /= S", 12: "a %= S", 13: "a &= S", 14: "a &~= S", 15: "a |= S", 16: "a ^= S", 17: "a <<= S", 18: "a >>= S",
	19: "a == S", 20: "a < S", 21: "a > S",
	22: "D = r N", 23: "r N = a", 24: "hash", 25: "hashd", 26: "out",
}

// placesOf are the places as a text says them.
var placesOf = [7]string{"a", "b", "c", "d", "* b", "* c", "* d"}

// sayIns is an instruction as a text says it, with blanks between the tokens.
func sayIns(i api.Ins) string {
	var l []string
	for _, w := range strings.Fields(forms[i.Op]) {
		switch {
		case w == "D":
			w = placesOf[i.D]
		case w == "N" || w == "S" && i.S == 7:
			w = strconv.Itoa(i.N)
		case w == "S":
			w = placesOf[i.S]
		}
		l = append(l, w)
	}
	return strings.Join(l, " ")
}

// said is a token as a text says it; with a line, if a statement of that line begins with it.
type said struct {
	s    string
	line int
}

// sayer says configs token by token.
type sayer struct {
	l []said
}

func (a *sayer) say(s string) {
	for _, w := range strings.Fields(s) {
		a.l = append(a.l, said{s: w})
	}
}

// numbers says a word and numbers.
func (a *sayer) numbers(word string, l ...int) {
	a.say(word)
	for _, n := range l {
		if n < 0 {
			a.say("minus")
			n = -n
		}
		a.say(strconv.Itoa(n))
	}
}

func (a *sayer) cond(c api.Cond) {
	if c.Not {
		a.say("not")
	}
	a.say(sayIns(c.Ins))
}

func (a *sayer) block(l []api.Stmt) {
	a.say("{")
	for _, s := range l {
		first := len(a.l)
		switch s.Kind {
		case api.SPlain:
			a.say(sayIns(s.Ins))
		case api.SHalt:
			a.say("halt")
		case api.SIf:
			a.say("if")
			a.cond(s.Cond)
			a.block(s.Body)
			if len(s.Else) > 0 {
				a.say("else")
				a.block(s.Else)
			}
		case api.SDo:
			a.say("do")
			a.block(s.Body)
			a.say("while")
			a.cond(s.Cond)
		}
		a.l[first].line = s.Line
	}
	a.say("}")
}

func (a *sayer) part(p api.Part) {
	switch p.Kind {
	case 1:
		a.numbers("const", p.C)
	case 2:
		a.numbers("cm", p.Size, p.Limit)
	case 3:
		a.numbers("icm", p.Size)
	case 4:
		a.numbers("match", p.Size)
	case 5:
		a.numbers("avg", p.A, p.B, p.C)
	case 6:
		a.numbers("pair", p.Size, p.A, p.B, p.Rate)
	case 7:
		a.numbers("mix", p.Size, p.A, p.B, p.Rate)
	case 8:
		a.numbers("isse", p.Size, p.A)
	case 9:
		a.numbers("sse", p.Size, p.A, p.Limit)
	}
}

// sayConfig is what says c.
func sayConfig(c api.Config) []said {
	var a sayer
	a.numbers("model", c.H, c.M)
	a.say("{")
	for _, p := range c.Parts {
		a.part(p)
	}
	a.say("} code")
	a.block(c.Code)
	if c.HasPost {
		a.numbers("post", c.PH, c.PM)
		a.block(c.Post)
	}
	return a.l
}

// heard are the tokens of a right text as sayConfig would say them: without what says nothing (an else that is empty, minus ahead of 0), each with its line.
func heard(text string) []said {
	l, _ := lex.Tokens(text)
	var out []said
	for i := 0; l[i].Kind != api.TEnd; i++ {
		t := l[i]
		switch {
		case t.S == "else" && l[i+2].S == "}":
			i += 2
			continue
		case t.S == "minus" && l[i+1].N == 0:
			continue
		case t.Kind == api.TNum:
			t.S = strconv.Itoa(t.N)
		}
		out = append(out, said{t.S, t.Line})
	}
	return out
}

// texts are these tokens alone.
func texts(l []said) []string {
	var out []string
	for _, w := range l {
		out = append(out, w.s)
	}
	return out
}

// opRow is a line of instructions, written out once more without package code: the Ops it is for, and the greatest D, S and N of each; with imm that S is the only one.
type opRow struct {
	from, to api.Op
	d, s, n  int
	imm      bool
}

// plainRows are all plain instructions, askedRows all of a condition.
var (
	plainRows = []opRow{
		{from: 1, to: 1, d: 6, s: 6},
		{from: 2, to: 2, d: 6, n: 255},
		{from: 3, to: 7, d: 6},
		{from: 8, to: 18, s: 6},
		{from: 8, to: 18, s: 7, n: 255, imm: true},
		{from: 22, to: 22, d: 3, n: 255},
		{from: 23, to: 23, n: 255},
		{from: 24, to: 26},
	}
	askedRows = []opRow{
		{from: 19, to: 21, s: 6},
		{from: 19, to: 21, s: 7, n: 255, imm: true},
	}
)

// list tells the instructions of the rows.
func list(rows []opRow) []api.Ins {
	var l []api.Ins
	for _, r := range rows {
		for op := r.from; op <= r.to; op++ {
			for d := 0; d <= r.d; d++ {
				for s := 0; s <= r.s; s++ {
					for n := 0; n <= r.n; n++ {
						if !r.imm || s == r.s {
							l = append(l, api.Ins{Op: op, D: d, S: s, N: n})
						}
					}
				}
			}
		}
	}
	return l
}

// maker makes chance configs and texts.
type maker struct {
	r            *rand.Rand
	plain, asked []api.Ins
	left         int // how many statements it may still make
}

func newMaker(seed int64) *maker {
	return &maker{r: rand.New(rand.NewSource(seed)), plain: list(plainRows), asked: list(askedRows)}
}

func (m *maker) cond() api.Cond {
	return api.Cond{Not: m.r.Intn(2) == 0, Ins: m.asked[m.r.Intn(len(m.asked))]}
}

// tree is a list of so many statements at most, nested at most so deep.
func (m *maker) tree(wide, deep int) []api.Stmt {
	var l []api.Stmt
	if deep == 0 {
		return nil
	}
	for range m.r.Intn(wide + 1) {
		if m.left == 0 {
			break
		}
		m.left--
		s := api.Stmt{Kind: api.StmtKind(1 + m.r.Intn(4))}
		switch s.Kind {
		case api.SPlain:
			s.Ins = m.plain[m.r.Intn(len(m.plain))]
		case api.SIf:
			s.Cond, s.Body, s.Else = m.cond(), m.tree(wide, deep-1), m.tree(wide, deep-1)
		case api.SDo:
			s.Cond, s.Body = m.cond(), m.tree(wide, deep-1)
		}
		l = append(l, s)
	}
	return l
}

// part is one with any numbers.
func (m *maker) part() api.Part {
	var n [4]int
	for i := range n {
		n[i] = m.r.Intn(65536) >> m.r.Intn(17)
	}
	switch kind := api.PartKind(1 + m.r.Intn(9)); kind {
	case 1:
		return api.Part{Kind: kind, C: n[0] - n[1]}
	case 2:
		return api.Part{Kind: kind, Size: n[0], Limit: n[1]}
	case 5:
		return api.Part{Kind: kind, A: n[0], B: n[1], C: n[2]}
	case 6, 7:
		return api.Part{Kind: kind, Size: n[0], A: n[1], B: n[2], Rate: n[3]}
	case 8:
		return api.Part{Kind: kind, Size: n[0], A: n[1]}
	case 9:
		return api.Part{Kind: kind, Size: n[0], A: n[1], Limit: n[2]}
	default:
		return api.Part{Kind: kind, Size: n[0]}
	}
}

// config is one that a text can say.
func (m *maker) config(wide, deep, most int) api.Config {
	c := api.Config{H: m.r.Intn(65536) >> m.r.Intn(17), M: m.r.Intn(65536) >> m.r.Intn(17)}
	for range m.r.Intn(5) {
		c.Parts = append(c.Parts, m.part())
	}
	m.left = most
	c.Code = m.tree(wide, deep)
	if m.r.Intn(2) == 0 {
		m.left = most
		c.HasPost, c.PH, c.PM, c.Post = true, m.r.Intn(65536), m.r.Intn(10), m.tree(wide, deep)
	}
	return c
}

// kind is that of the token s; 0, if there is none.
func kind(s string) api.TokenKind {
	switch {
	case s == "":
		return 0
	case s[0] >= 'a' && s[0] <= 'z':
		return api.TWord
	case s[0] >= '0' && s[0] <= '9':
		return api.TNum
	}
	return api.TSign
}

// gap is what stands between two tokens, perhaps nothing: two of a kind may need something.
func (m *maker) gap(before, behind string) string {
	gaps := []string{" ", "\n", "\t", "\r\n", "  ", "# x 70000 {\n", " #\n\n", ""}
	if kind(before) == kind(behind) {
		gaps = gaps[:len(gaps)-1]
	}
	return gaps[m.r.Intn(len(gaps))]
}

// lay is a text of the tokens, with any gaps between them.
func (m *maker) lay(l []string) string {
	var b strings.Builder
	before := ""
	for _, w := range l {
		b.WriteString(m.gap(before, w) + w)
		before = w
	}
	b.WriteString(m.gap(before, ""))
	return b.String()
}

// vocabulary is every word and sign of the grammar, words that it has not, and numbers; a number beside an instruction's greatest one.
var vocabulary = strings.Fields("model code post const minus cm icm match avg pair mix isse sse halt hash hashd out zero swap r a b c d if not else do while { } = == < > += -= *= /= %= &= &~= |= ^= <<= >>= ++ -- ~ * 0 7 255 256 65535 x e ab mixx conste")

// spoil changes one token: another one there, perhaps of its kind, one more, one less, or nothing behind it.
func (m *maker) spoil(l []string) []string {
	at := m.r.Intn(len(l))
	other := vocabulary[m.r.Intn(len(vocabulary))]
	out := append([]string(nil), l[:at]...)
	switch m.r.Intn(10) {
	case 0:
		return append(append(out, other), l[at:]...)
	case 1:
		return append(out, l[at+1:]...)
	case 2:
		return out
	case 3:
		return append(append(out, other), l[at+1:]...)
	}
	for kind(other) != kind(l[at]) {
		other = vocabulary[m.r.Intn(len(vocabulary))]
	}
	return append(append(out, other), l[at+1:]...)
}
