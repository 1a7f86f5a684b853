package parse

import (
	"math/rand"
	"reflect"
	"slices"
	"strconv"
	"strings"
	"testing"

	"quillpress/api"
	"quillpress/syntax"
)

// refused asks for a fault, and for nothing beside it.
func refused(t *testing.T, text string, e api.Errno, line int) {
	t.Helper()
	want := api.Fault{Err: e, Line: line}
	if c, f := Parse(text); f != want || !reflect.DeepEqual(c, api.Config{}) {
		t.Fatalf("%.400q: %+v, %v; not %v", text, c, f, want)
	}
}

// parsed is what a right text says.
func parsed(t *testing.T, text string) api.Config {
	t.Helper()
	c, f := Parse(text)
	if f != (api.Fault{}) {
		t.Fatalf("%.400q: %v", text, f)
	}
	return c
}

// gives asks for these statements, as code and as what comes behind.
func gives(t *testing.T, block string, want ...api.Stmt) {
	t.Helper()
	c := parsed(t, "model 0 0 { } code { "+block+" }")
	same(t, block, c, api.Config{Code: want})
	c = parsed(t, "model 0 0 { } code { } post 3 4 { "+block+" }")
	same(t, block, c, api.Config{HasPost: true, PH: 3, PM: 4, Post: want})
}

// same asks whether two configs are the same; an empty list and none are.
func same(t *testing.T, text string, got, want api.Config) {
	t.Helper()
	if !reflect.DeepEqual(without(got), without(want)) {
		t.Fatalf("%.400q: %+v; not %+v", text, got, want)
	}
}

// without is c with none for each list that is empty.
func without(c api.Config) api.Config {
	if len(c.Parts) == 0 {
		c.Parts = nil
	}
	c.Code, c.Post = withoutIn(c.Code, -1), withoutIn(c.Post, -1)
	return c
}

// withoutIn is such a list; its lines are all line, unless that is below 0.
func withoutIn(l []api.Stmt, line int) []api.Stmt {
	var out []api.Stmt
	for _, s := range l {
		s.Body, s.Else = withoutIn(s.Body, line), withoutIn(s.Else, line)
		if line >= 0 {
			s.Line = line
		}
		out = append(out, s)
	}
	return out
}

// asTold holds what is said of text against the grammar, and what a right one says against its tokens; it tells the fault.
func asTold(t *testing.T, text string) api.Fault {
	t.Helper()
	want := wordsFault(text)
	if want != (api.Fault{}) {
		refused(t, text, want.Err, want.Line)
		return want
	}
	c := parsed(t, text)
	if !syntax.Right(c.Code, true) || !syntax.Right(c.Post, true) || !c.HasPost && (len(c.Post) > 0 || c.PH != 0 || c.PM != 0) {
		t.Fatalf("%.400q: %+v may not be", text, c)
	}
	l, tokens := sayConfig(c), heard(text)
	if !slices.Equal(texts(l), texts(tokens)) {
		t.Fatalf("%.400q: says %v", text, texts(l))
	}
	for i, w := range l {
		if w.line != 0 && w.line != tokens[i].line {
			t.Fatalf("%.400q: %q, token %d, is of line %d, not %d", text, w.s, i, w.line, tokens[i].line)
		}
	}
	// A statement without a line would pass by the above.
	if lineless(c.Code) || lineless(c.Post) {
		t.Fatalf("%.400q: a statement has no line", text)
	}
	return want
}

// lineless tells whether a statement has no line.
func lineless(l []api.Stmt) bool {
	return slices.ContainsFunc(l, func(s api.Stmt) bool { return s.Line < 1 || lineless(s.Body) || lineless(s.Else) })
}

// Short forms of statements, all of line 1.
func plain(i api.Ins) api.Stmt { return api.Stmt{Kind: api.SPlain, Ins: i, Line: 1} }
func iff(c api.Cond, l, o []api.Stmt) api.Stmt {
	return api.Stmt{Kind: api.SIf, Cond: c, Body: l, Else: o, Line: 1}
}
func do(c api.Cond, l ...api.Stmt) api.Stmt {
	return api.Stmt{Kind: api.SDo, Cond: c, Body: l, Line: 1}
}
func cond(not bool, i api.Ins) api.Cond { return api.Cond{Not: not, Ins: i} }

var (
	inc    = plain(api.Ins{Op: api.OInc})
	halt   = api.Stmt{Kind: api.SHalt, Line: 1}
	isZero = cond(false, api.Ins{Op: api.OEq, S: api.Imm})
)

// The chapter's examples.
func TestExamples(t *testing.T) {
	const text = "model 0 0 { const 5 } code { a++ }"
	same(t, text, parsed(t, text), api.Config{Parts: []api.Part{{Kind: api.PConst, C: 5}}, Code: []api.Stmt{inc}})
	const loop = "model 1 2 { cm 8 255 } code { do { a ^= *d a-- } while a > 0 } post 0 0 { out }"
	same(t, loop, parsed(t, loop), api.Config{
		H: 1, M: 2, HasPost: true,
		Parts: []api.Part{{Kind: api.PCm, Size: 8, Limit: 255}},
		Code:  []api.Stmt{do(cond(false, api.Ins{Op: api.OGt, S: api.Imm}), plain(api.Ins{Op: api.OXor, S: api.MemD}), plain(api.Ins{Op: api.ODec}))},
		Post:  []api.Stmt{plain(api.Ins{Op: api.OOut})},
	})
	refused(t, "model 0 0 { } code { a = 256 }", api.ErrRange, 1)
	refused(t, "model 0 0 { } code { b += 1 }", api.ErrSyntax, 1)
}

// P20.1: the numbers of a text, whatever they are.
func TestNumbers(t *testing.T) {
	for _, n := range []int{0, 1, 8, 9, 255, 256, 4096, 65535} {
		s := strconv.Itoa(n)
		text := "model " + s + " 7 { } code { } post 5 " + s + " { }"
		same(t, text, parsed(t, text), api.Config{H: n, M: 7, PH: 5, PM: n, HasPost: true})
		text = "model 6 " + s + " { } code { } post " + s + " 4 { }"
		same(t, text, parsed(t, text), api.Config{H: 6, M: n, PH: n, PM: 4, HasPost: true})
	}
	// A second program that has nothing is one; a text may be without.
	same(t, "", parsed(t, "model 1 2 { } code { }"), api.Config{H: 1, M: 2})
	same(t, "", parsed(t, "model 1 2 { } code { } post 0 0 { }"), api.Config{H: 1, M: 2, HasPost: true})
	same(t, "", parsed(t, "model 00001 2{}code{}post 3 4{}"), api.Config{H: 1, M: 2, PH: 3, PM: 4, HasPost: true})
}

// P20.1: each part with its numbers in their order, whatever they are, as many parts as there are.
func TestParts(t *testing.T) {
	text := "const 1 const minus 2 cm 3 4 icm 5 match 6 avg 7 8 9 pair 10 11 12 13 mix 14 15 16 17 isse 18 19 sse 20 21 22 const 0"
	want := []api.Part{
		{Kind: api.PConst, C: 1},
		{Kind: api.PConst, C: -2},
		{Kind: api.PCm, Size: 3, Limit: 4},
		{Kind: api.PIcm, Size: 5},
		{Kind: api.PMatch, Size: 6},
		{Kind: api.PAvg, A: 7, B: 8, C: 9},
		{Kind: api.PMix2, Size: 10, A: 11, B: 12, Rate: 13},
		{Kind: api.PMix, Size: 14, A: 15, B: 16, Rate: 17},
		{Kind: api.PIsse, Size: 18, A: 19},
		{Kind: api.PSse, Size: 20, A: 21, Limit: 22},
		{Kind: api.PConst},
	}
	same(t, text, parsed(t, "model 0 0 { "+text+" } code { }"), api.Config{Parts: want})
	great := "const 65535 const minus 65535 const minus 0 cm 65535 65535 avg 65535 65535 65535 sse 65535 65535 65535"
	same(t, great, parsed(t, "model 0 0 { "+great+" } code { }"), api.Config{Parts: []api.Part{
		{Kind: api.PConst, C: 65535},
		{Kind: api.PConst, C: -65535},
		{Kind: api.PConst},
		{Kind: api.PCm, Size: 65535, Limit: 65535},
		{Kind: api.PAvg, A: 65535, B: 65535, C: 65535},
		{Kind: api.PSse, Size: 65535, A: 65535, Limit: 65535},
	}})
	c := parsed(t, "model 0 0 { "+strings.Repeat("icm 1 ", 2000)+"} code { }")
	if len(c.Parts) != 2000 || slices.Max([]int{len(c.Code), len(c.Post)}) != 0 {
		t.Fatal(len(c.Parts))
	}
	// Its numbers are not more and not fewer than they are, and minus stands behind const alone.
	for s, n := range map[string]int{"const": 1, "const minus": 1, "cm": 2, "icm": 1, "match": 1, "avg": 3, "pair": 4, "mix": 4, "isse": 2, "sse": 3} {
		for k := range n + 3 {
			text := "model 0 0 {\n" + s + strings.Repeat("\n1", k) + "\n} code {\n}"
			if k == n {
				parsed(t, text)
				continue
			}
			refused(t, text, api.ErrSyntax, 3+min(k, n))
		}
		if s != "const" {
			refused(t, "model 0 0 { "+s+"\nminus\n1", api.ErrSyntax, 2)
		}
	}
	refused(t, "model 0 0 { const\nminus\nminus\n5", api.ErrSyntax, 3)
	refused(t, "model 0 0 { const\n5\nminus", api.ErrSyntax, 3)
	refused(t, "model 0 0 { PConst 5 } code { }", api.ErrToken, 1)
}

// P20.1: each plain instruction that may be, as code and as what comes behind; each line is its own.
func TestPlain(t *testing.T) {
	all := list(plainRows)
	if len(all) != 49+7*256+5*7+11*7+11*256+4*256+256+3 {
		t.Fatal(len(all))
	}
	for l := range slices.Chunk(all, 300) {
		var text strings.Builder
		var want []api.Stmt
		for i, in := range l {
			text.WriteString("\n" + sayIns(in))
			want = append(want, api.Stmt{Kind: api.SPlain, Ins: in, Line: i + 2})
		}
		gives(t, text.String(), want...)
	}
}

// P20.1: what the words say, one by one.
func TestStatements(t *testing.T) {
	for s, want := range map[string]api.Ins{
		"hash": {Op: api.OHash}, "hashd": {Op: api.OHashD}, "out": {Op: api.OOut},
		"zero c": {Op: api.OZero, D: 2}, "zero *d": {Op: api.OZero, D: 6},
		"swap a": {Op: api.OSwap}, "swap *b": {Op: api.OSwap, D: 4},
		"~a": {Op: api.ONot}, "~*c": {Op: api.ONot, D: 5},
		"r 0 = a": {Op: api.OStore}, "r 255 = a": {Op: api.OStore, N: 255},
		"d++": {Op: api.OInc, D: 3}, "*b++": {Op: api.OInc, D: 4}, "b--": {Op: api.ODec, D: 1}, "*d--": {Op: api.ODec, D: 6},
		"b = a": {Op: api.OSet, D: 1}, "a = *b": {Op: api.OSet, S: 4}, "*c = *d": {Op: api.OSet, D: 5, S: 6}, "d = d": {Op: api.OSet, D: 3, S: 3},
		"a = 0": {Op: api.OSetN}, "*d = 255": {Op: api.OSetN, D: 6, N: 255}, "c = 00007": {Op: api.OSetN, D: 2, N: 7},
		"a = r 9": {Op: api.OLoad, N: 9}, "d = r 255": {Op: api.OLoad, D: 3, N: 255},
		"a += b": {Op: api.OAdd, S: 1}, "a -= c": {Op: api.OSub, S: 2}, "a *= d": {Op: api.OMul, S: 3}, "a /= a": {Op: api.ODiv}, "a %= *b": {Op: api.OMod, S: 4}, "a &= *c": {Op: api.OAnd, S: 5},
		"a &~= *d": {Op: api.OAndN, S: 6}, "a |= 1": {Op: api.OOr, S: 7, N: 1}, "a ^= 0": {Op: api.OXor, S: 7}, "a <<= 31": {Op: api.OShl, S: 7, N: 31}, "a >>= 255": {Op: api.OShr, S: 7, N: 255},
	} {
		gives(t, s, plain(want))
		gives(t, s+" "+s, plain(want), plain(want))
		gives(t, "if a == 0 { "+s+" } else { "+s+" }", iff(isZero, []api.Stmt{plain(want)}, []api.Stmt{plain(want)}))
		gives(t, "do { "+s+" } while a == 0", do(isZero, plain(want)))
	}
	gives(t, "halt", halt)
	gives(t, "halt halt hash", halt, halt, plain(api.Ins{Op: api.OHash}))
	gives(t, "")
	// Where one ends the next one begins, whatever could be made of both.
	gives(t, "a=b*b++", plain(api.Ins{Op: api.OSet, S: 1}), plain(api.Ins{Op: api.OInc, D: 4}))
	gives(t, "a=*b*b=a", plain(api.Ins{Op: api.OSet, S: 4}), plain(api.Ins{Op: api.OSet, D: 4}))
	refused(t, "model 0 0 { } code { a = b\n++ }", api.ErrSyntax, 2)
}

// P20.1: each condition that may be, held and not, of if and of do.
func TestConditions(t *testing.T) {
	for l := range slices.Chunk(list(askedRows), 60) {
		var text strings.Builder
		var want []api.Stmt
		for _, in := range l {
			for _, not := range []bool{false, true} {
				a := sayer{}
				a.cond(cond(not, in))
				s := strings.Join(texts(a.l), " ")
				text.WriteString("if " + s + " { } do { } while " + s + " ")
				want = append(want, iff(cond(not, in), nil, nil), do(cond(not, in)))
			}
		}
		gives(t, text.String(), want...)
	}
	for s, want := range map[string]api.Cond{
		"a == b": cond(false, api.Ins{Op: api.OEq, S: 1}), "a < *c": cond(false, api.Ins{Op: api.OLt, S: 5}), "a > 255": cond(false, api.Ins{Op: api.OGt, S: 7, N: 255}),
		"not a == 0": cond(true, api.Ins{Op: api.OEq, S: 7}), "not a < a": cond(true, api.Ins{Op: api.OLt}), "not a > *d": cond(true, api.Ins{Op: api.OGt, S: 6}),
	} {
		gives(t, "if "+s+" { halt }", iff(want, []api.Stmt{halt}, nil))
		gives(t, "do { halt } while "+s+" halt", do(want, halt), halt)
	}
}

// P20.1: blocks within blocks, with an else and without; an else is of the if that stands ahead of it.
func TestBlocks(t *testing.T) {
	one := []api.Stmt{inc}
	gives(t, "if a == 0 { }", iff(isZero, nil, nil))
	gives(t, "if a == 0 { } else { }", iff(isZero, nil, nil))
	gives(t, "if a == 0 { a++ } else { }", iff(isZero, one, nil))
	gives(t, "if a == 0 { } else { a++ }", iff(isZero, nil, one))
	gives(t, "if a == 0 { a++ } a++", iff(isZero, one, nil), inc)
	gives(t, "if a == 0 { if a == 0 { } } else { a++ }", iff(isZero, []api.Stmt{iff(isZero, nil, nil)}, one))
	gives(t, "if a == 0 { if a == 0 { } else { a++ } }", iff(isZero, []api.Stmt{iff(isZero, nil, one)}, nil))
	gives(t, "if a == 0 { } else { if a == 0 { } else { a++ } }", iff(isZero, nil, []api.Stmt{iff(isZero, nil, one)}))
	gives(t, "do { do { a++ } while a == 0 a++ } while a == 0 a++", do(isZero, do(isZero, inc), inc), inc)
	c := parsed(t, "model 0 0 { }\ncode {\na\n++ if\na == 0 {\nhalt }\nelse {\n*\nb = 1 }\ndo {\n~ a } while\na == 0 }\npost\n0 0 {\nout }")
	same(t, "", c, api.Config{HasPost: true, Post: []api.Stmt{{Kind: api.SPlain, Ins: api.Ins{Op: api.OOut}, Line: 15}}, Code: []api.Stmt{
		{Kind: api.SPlain, Ins: api.Ins{Op: api.OInc}, Line: 3},
		{Kind: api.SIf, Cond: isZero, Line: 4, Body: []api.Stmt{{Kind: api.SHalt, Line: 6}}, Else: []api.Stmt{{Kind: api.SPlain, Ins: api.Ins{Op: api.OSetN, D: 4, N: 1}, Line: 8}}},
		{Kind: api.SDo, Cond: isZero, Line: 10, Body: []api.Stmt{{Kind: api.SPlain, Ins: api.Ins{Op: api.ONot}, Line: 11}}},
	}})
}

// P20.1: at the first token that may not stand where it does.
func TestSyntax(t *testing.T) {
	for _, l := range []string{
		"", "x", "5", "{", "code", "odel",
		"model", "model {", "model 1", "model 1 {", "model 1 2", "model 1 2 code", "model 1 2 3", "model minus",
		"model 0 0 { 5", "model 0 0 { halt", "model 0 0 { {", "model 0 0 { minus", "model 0 0 { cm 8 255 code",
		"model 0 0 { }", "model 0 0 { } {", "model 0 0 { } post", "model 0 0 { } code", "model 0 0 { } code a", "model 0 0 { } code { ", "model 0 0 { } code { {",
		"model 0 0 { } code { } }", "model 0 0 { } code { } code", "model 0 0 { } code { } halt", "model 0 0 { } code { } 0", "model 0 0 { } code { } model",
		"model 0 0 { } code { } post", "model 0 0 { } code { } post {", "model 0 0 { } code { } post 1", "model 0 0 { } code { } post 1 {", "model 0 0 { } code { } post 1 2", "model 0 0 { } code { } post 1 2 3",
		"model 0 0 { } code { } post 1 2 { } }", "model 0 0 { } code { } post 1 2 { } post", "model 0 0 { } code { } post 1 2 { } code",
	} {
		words := strings.Fields(l)
		text := strings.Join(words, "\n")
		// The last word, or the end behind it: both are of the last line.
		refused(t, text, api.ErrSyntax, max(len(words), 1))
		asTold(t, text)
	}
	// Behind the dot stands what may not.
	for _, s := range []string{
		". 5", ". {", ". else", ". while", ". not", ". =", ". ++", ". minus", ". e", ". model", ". post", ". const",
		"halt . ++", "hash . =", "out . 5", "zero . 5", "zero . r", "zero * . a", "swap . =", "swap a . =", "~ . ~", "~ . halt", "~ a . ++", "* . a", "* . *", "* . 5", "* . halt",
		"a . a", "a . ==", "a . <", "a . 5", "a . }", "a . {", "a . *", "a . ~", "a . halt", "b . +=", "b . >>=", "* b . ^=", "* d . -=", "d . *=",
		"a = . =", "a = . }", "a = * . a", "a = * . 5", "a = . halt", "a = . minus", "a = . ++", "* b = . r", "* c = . r", "* d = . r", "a = r . a", "a = r . =", "a += . r", "a += . =", "a += * . a", "a = 5 . =",
		"r . a", "r . =", "r 5 . ++", "r 5 . a", "r 5 = . b", "r 5 = . 5", "r 5 = . *", "r 5 = a . ++", "r 5 = a . =", "r 5 . +=",
		"if . {", "if . b", "if . *", "if . 5", "if not . not", "if not . b", "if not . {", "if a . =", "if a . {", "if a . ++", "if a . +=", "if a == . =", "if a == . {", "if a < . =", "if a == 0 . a", "if a == 0 . }", "if a == 0 { } else . if", "if a == 0 { } else . a", "if a == 0 { } else { } . else", "if a == 0 { . else", "halt . else",
		"do . a", "do . while", "do { } . until", "do { } . }", "do { } while . b", "do { } while . {", "do { } while not . not", "do { } . else", "do { } while a == 0 . {", "do { } while a == 0 . while",
	} {
		before, behind, _ := strings.Cut(s, ".")
		words := strings.Fields(before + behind)
		at := len(strings.Fields(before)) + 1
		for _, head := range []string{"model 0 0 { } code {", "model 0 0 { } code { } post 0 0 {", "model 0 0 { } code { a ++ do {"} {
			refused(t, head+"\n"+strings.Join(words, "\n")+"\n}", api.ErrSyntax, at+1)
			if f := asTold(t, head+"\n"+strings.Join(words[:at], "\n")); f.Line != at+1 {
				t.Fatal(s, f)
			}
		}
	}
}

// P20.1: a text that ends too early: the end may not stand there, and has a line.
func TestEnds(t *testing.T) {
	full := strings.Fields("model 1 2 { const minus 5 mix 2 0 5 16 } code { a = r 5 r 9 = a zero * b if not a == 0 { ~ a } else { a += 5 } do { a ++ } while a < * c } post 0 0 { out }")
	first := slices.Index(full, "post")
	for n := range full {
		text := strings.Join(full[:n], " ") + "\n\n"
		if n == first {
			parsed(t, text)
			continue
		}
		refused(t, text, api.ErrSyntax, 3)
	}
	parsed(t, strings.Join(full, "\n"))
}

// P20.1: an instruction's number is at most 255, asked as it is met; other numbers are not asked.
func TestRange(t *testing.T) {
	for _, s := range []string{
		"r\nN\n=\na", "a\n=\nN", "d\n=\nN", "*\nd\n=\nN", "a\n=\nr\nN", "d\n=\nr\nN",
		"a\n+=\nN", "a\n-=\nN", "a\n*=\nN", "a\n/=\nN", "a\n%=\nN", "a\n&=\nN", "a\n&~=\nN", "a\n|=\nN", "a\n^=\nN", "a\n<<=\nN", "a\n>>=\nN",
		"if\na\n==\nN\n{\n}", "if\nnot\na\n<\nN\n{\n}", "if\na\n>\nN\n{\n}", "do\n{\n}\nwhile\na\n==\nN", "do\n{\n}\nwhile\na\n<\nN", "do\n{\n}\nwhile\nnot\na\n>\nN",
	} {
		ahead, behind, _ := strings.Cut(s, "N")
		at := strings.Count(ahead, "\n") + 2
		for _, head := range []string{"model 0 0 { } code {\n", "model 0 0 { } code { } post 0 0 {\n"} {
			for _, n := range []string{"0", "1", "254", "255", "00255"} {
				parsed(t, head+ahead+n+behind+"\n}")
			}
			for _, n := range []string{"256", "00256", "257", "511", "512", "1000", "65535"} {
				refused(t, head+ahead+n+behind+"\n}", api.ErrRange, at)
				// It is met ahead of what may not stand behind it.
				refused(t, head+ahead+n+"\n==", api.ErrRange, at)
				refused(t, head+ahead+n, api.ErrRange, at)
			}
			refused(t, head+ahead+"65536", api.ErrToken, at)
		}
	}
	// What may not stand ahead of it is met first, and so is a number where none may stand.
	refused(t, "model 0 0 { } code {\nb\n+=\n256 }", api.ErrSyntax, 3)
	refused(t, "model 0 0 { } code {\n*b =\nr\n256 }", api.ErrSyntax, 3)
	refused(t, "model 0 0 { } code { zero\n256 }", api.ErrSyntax, 2)
	refused(t, "model 0 0 { } code { a = 5\na = 300\n}\n}", api.ErrRange, 2)
	refused(t, "model 0 0 { } code { a ==\na = 300 }", api.ErrSyntax, 1)
}

// P20.1: what is no token is told ahead of all else; a text that is too long has no line.
func TestLexFirst(t *testing.T) {
	refused(t, "x\n?", api.ErrToken, 2)
	refused(t, "model 0 0 { } code { a = 256 }\n\n!", api.ErrToken, 3)
	refused(t, "model 0 0 { } code { "+strings.Repeat("halt ", 501)+"}\n70000", api.ErrToken, 2)
	refused(t, "model 0 0 { } code { a & b }", api.ErrToken, 1)
	refused(t, strings.Repeat("\n", 16385), api.ErrLong, 0)
	refused(t, "?"+strings.Repeat("x", 16384), api.ErrLong, 0)
	const text = "model 0 0 { } code { }"
	parsed(t, text+strings.Repeat(" ", 16384-len(text)))
	refused(t, text+strings.Repeat(" ", 16385-len(text)), api.ErrLong, 0)
	refused(t, strings.Repeat("\n", 16384), api.ErrSyntax, 16385)
}

// P20.1: a program has 500 statements at most, those within others too; each program by itself.
func TestMany(t *testing.T) {
	const head, behind = "model 0 0 { } code {\n", "model 0 0 { } code {\n} post 0 0 {"
	lines := func(n int) string { return strings.Repeat("halt\n", n) }
	for _, h := range []string{head, behind + "\n"} {
		base := strings.Count(h, "\n")
		if c := parsed(t, h+lines(500)+"}"); len(c.Code)+len(c.Post) != 500 {
			t.Fatal(len(c.Code), len(c.Post))
		}
		refused(t, h+lines(501)+"}", api.ErrLong, base+501)
		refused(t, h+lines(600)+"}", api.ErrLong, base+501)
		// The first token of the 501st is enough, whatever stands behind it; it must begin one.
		for _, s := range []string{"a", "*", "~", "r", "zero", "if", "do", "hash", "out", "d", "swap", "hashd"} {
			refused(t, h+lines(500)+s, api.ErrLong, base+501)
			refused(t, h+lines(500)+s+" 300", api.ErrLong, base+501)
			refused(t, h+lines(500)+"\n"+s+" }", api.ErrLong, base+502)
		}
		for _, s := range []string{"5", "else", "while", "{", "=", "x", ""} {
			refused(t, h+lines(500)+s, api.ErrSyntax, base+501)
		}
		// Those within others count, and the others too.
		inner := "if a == 0 {\nhalt\nhalt } else {\ndo {\nhalt } while a == 0 }\n"
		parsed(t, h+strings.Repeat(inner, 100)+"}")
		refused(t, h+strings.Repeat(inner, 100)+"halt }", api.ErrLong, base+501)
		refused(t, h+"do {\n"+lines(500)+"} while a == 0 }", api.ErrLong, base+501)
		refused(t, h+"if a == 0 {\n"+lines(499)+"} else {\nhalt } }", api.ErrLong, base+502)
		parsed(t, h+"if a == 0 {\n"+lines(250)+"} else {\n"+lines(249)+"} }")
		refused(t, h+lines(499)+"do {\nhalt } while a == 0 }", api.ErrLong, base+501)
		parsed(t, h+lines(499)+"do {\n} while a == 0 }")
		refused(t, h+lines(500)+"do {\n} while a == 0 }", api.ErrLong, base+501)
	}
	c := parsed(t, head+lines(500)+"} post 0 0 {\n"+lines(500)+"}")
	if len(c.Code) != 500 || len(c.Post) != 500 {
		t.Fatal(len(c.Code), len(c.Post))
	}
	refused(t, head+lines(500)+"} post 0 0 {\n"+lines(501)+"}", api.ErrLong, 1003)
	// What is met ahead of the 501st counts.
	refused(t, head+lines(499)+"a = 256\nhalt }", api.ErrRange, 501)
	refused(t, head+lines(499)+"a\nhalt }", api.ErrSyntax, 502)
}

// P20.1: statements are nested at most 20 deep; a list that has none makes no level.
func TestDeep(t *testing.T) {
	wraps := [][2]string{
		{"if a == 0 {\n", "}"},
		{"if a == 0 { } else {\n", "}"},
		{"do {\n", "} while a == 0"},
		{"halt if not a < *b { halt } else { halt do {\n", "} while a > 5 halt }"},
	}
	for k, w := range wraps {
		levels := 1
		if k == 3 {
			levels = 2
		}
		for _, head := range []string{"model 0 0 { } code {\n", "model 0 0 { } code {\n} post 0 0 {"} {
			wrapped := func(n int, inner string) string {
				return head + strings.Repeat(w[0], n) + inner + strings.Repeat(w[1], n) + "}"
			}
			parsed(t, wrapped((20-levels)/levels, "halt"))
			refused(t, wrapped(20/levels, "a ++"), api.ErrLong, 20/levels+2)
			refused(t, wrapped(20/levels, "\na 300"), api.ErrLong, 20/levels+3)
			parsed(t, wrapped(20/levels, ""))
			refused(t, wrapped(20/levels, "5"), api.ErrSyntax, 20/levels+2)
			refused(t, wrapped(20/levels+1, ""), api.ErrLong, 20/levels+2)
			refused(t, wrapped(16000/len(w[0]+w[1]), ""), api.ErrLong, 20/levels+2)
			refused(t, head+strings.Repeat(w[0], 20/levels+1), api.ErrLong, 20/levels+2)
			asTold(t, wrapped(20/levels, ""))
			asTold(t, wrapped(20/levels-1, "halt"))
		}
	}
	// As deep as may be, many times over: what was left is not deep any more.
	deep := strings.Repeat("do { ", 19) + "halt" + strings.Repeat(" } while a == 0", 19) + "\n"
	parsed(t, "model 0 0 { } code { "+strings.Repeat(deep, 25)+"}")
	refused(t, "model 0 0 { } code {\n"+strings.Repeat(deep, 25)+"halt }", api.ErrLong, 27)
}

// P20.1: all runs of tokens, as far as each may stand, held against the grammar: each token has a line of its own.
func TestShortRuns(t *testing.T) {
	tried := map[api.Errno]int{}
	var all func(text string, more int)
	all = func(text string, more int) {
		tried[asTold(t, text).Err]++
		for _, w := range vocabulary {
			next := text + "\n" + w
			f := asTold(t, next)
			tried[f.Err]++
			// Behind what may not stand nothing tells any more.
			if more > 1 && f.Line == strings.Count(next, "\n")+1 && wordsFault(next+"\n}").Line != f.Line {
				all(next, more-1)
			} else if more > 1 && f == (api.Fault{}) {
				all(next, more-1)
			}
		}
	}
	all("", 6)
	for _, head := range []string{"model 0 0 {", "model 0 0 { } code {", "model 0 0 { } code { }", "model 0 0 { } code { } post 1 2 {", "model 0 0 { } code { if a == 0 { }", "model 0 0 { } code { do {"} {
		all(head, 3)
	}
	if tried[api.OK] < 10 || tried[api.ErrSyntax] < 10000 || tried[api.ErrRange] < 100 {
		t.Fatal(tried)
	}
}

// P20.1: each form of the grammar with one token changed in every way, held against the grammar.
func TestSpoiltForms(t *testing.T) {
	tried := map[api.Errno]int{}
	for _, s := range []string{
		"", "halt", "hash hashd out", "zero b", "swap * c", "~ * d", "r 255 = a", "c ++", "* b --", "a = c", "* b = * d", "d = 255", "* c = 0", "b = r 7", "a += 5", "a >>= * b", "a &~= c",
		"if a == 0 { }", "if not a < * b { halt } else { a ++ }", "do { a = 1 } while not a > c",
	} {
		text := "model 1 2 { const minus 5 sse 3 6 100 } code { " + s + " } post 0 0 { " + s + " }"
		l := strings.Fields(text)
		for at := range l {
			for _, w := range vocabulary {
				for _, behind := range []int{at, at + 1} {
					other := slices.Concat(l[:at], []string{w}, l[behind:])
					tried[asTold(t, strings.Join(other, "\n")).Err]++
				}
			}
			tried[asTold(t, strings.Join(slices.Concat(l[:at], l[at+1:]), "\n")).Err]++
		}
	}
	if tried[api.OK] < 1000 || tried[api.ErrSyntax] < 10000 || tried[api.ErrRange] < 100 {
		t.Fatal(tried)
	}
}

// P20.1, P20.2: chance configs, said with any gaps, are parsed to the same but for lines; said otherwise, to the same lines too.
func TestChanceConfigs(t *testing.T) {
	m := newMaker(20)
	post, big := 0, 0
	for range 1500 {
		c := m.config(1+m.r.Intn(30), 1+m.r.Intn(20), m.r.Intn(200))
		tokens := texts(sayConfig(c))
		text := strings.Join(tokens, " ")
		wide := m.lay(tokens)
		if len(text) > api.MaxConfig || len(wide) > api.MaxConfig {
			continue
		}
		for _, s := range []string{text, wide} {
			got := parsed(t, s)
			got.Code, got.Post = withoutIn(got.Code, 0), withoutIn(got.Post, 0)
			same(t, s, got, c)
			asTold(t, s)
		}
		if c.HasPost {
			post++
		}
		big = max(big, syntax.Count(c.Code))
	}
	if post < 500 || big < 150 {
		t.Fatal(post, big)
	}
}

// P20.1: chance configs whose texts are spoilt, and runs of chance tokens, held against the grammar.
func TestChanceTexts(t *testing.T) {
	m := newMaker(201)
	tried := map[api.Errno]int{}
	for range 20000 {
		l := texts(sayConfig(m.config(1+m.r.Intn(10), 1+m.r.Intn(25), m.r.Intn(40))))
		for range 1 + m.r.Intn(2) {
			if len(l) > 0 {
				l = m.spoil(l)
			}
		}
		tried[asTold(t, m.lay(l)).Err]++
	}
	for range 20000 {
		var l []string
		for range m.r.Intn(12) {
			l = append(l, vocabulary[m.r.Intn(len(vocabulary))])
		}
		tried[asTold(t, m.lay(append(strings.Fields("model 0 0 { } code {"), l...))).Err]++
	}
	for range 300 {
		// Many statements, nested deep: the limits are met in any order.
		c := m.config(200, 24, 520)
		tried[asTold(t, strings.Join(texts(sayConfig(c)), "\n")).Err]++
	}
	if tried[api.OK] < 500 || tried[api.ErrSyntax] < 5000 || tried[api.ErrRange] < 100 || tried[api.ErrLong] < 50 {
		t.Fatal(tried)
	}
}

// Rules: any bytes are told of, and nothing panics.
func TestAnyBytes(t *testing.T) {
	r := rand.New(rand.NewSource(202))
	for range 3000 {
		b := make([]byte, r.Intn(200))
		for i := range b {
			b[i] = byte(r.Intn(256))
		}
		asTold(t, string(b))
		asTold(t, "model 0 0 { # "+string(b)+"\n} code { }")
	}
	for c := range 256 {
		asTold(t, string([]byte{byte(c)}))
		asTold(t, "model 0 0 { } code { a"+string([]byte{byte(c)})+"= b }")
	}
}

// lists are all lists of statements of l and those within it.
func lists(l []api.Stmt) [][]api.Stmt {
	out := [][]api.Stmt{l}
	for _, s := range l {
		out = append(append(out, lists(s.Body)...), lists(s.Else)...)
	}
	return out
}

// Rules: no two lists share memory, spare room too, within an answer and from call to call; nothing is left of the last call.
func TestApart(t *testing.T) {
	const text = "model 3 4 { cm 8 255 icm 9 const 5 } code { a++ a++ a++ if a == 0 { a++ a++ a++ } else { b++ b++ b++ do { hash } while a == 0 } halt } post 1 2 { out out if not a > b { out } else { halt halt halt } }"
	first := parsed(t, text)
	want := parsed(t, text)
	spoilt := parsed(t, text)
	all := append(lists(spoilt.Code), lists(spoilt.Post)...)
	if len(all) < 6 {
		t.Fatal(len(all))
	}
	for k, l := range all {
		for i := range l[:cap(l)] {
			l[:cap(l)][i] = api.Stmt{Line: -k}
		}
	}
	for k, l := range all {
		for _, s := range l[:cap(l)] {
			if s.Line != -k {
				t.Fatal(k, s)
			}
		}
	}
	for i := range spoilt.Parts[:cap(spoilt.Parts)] {
		spoilt.Parts[:cap(spoilt.Parts)][i] = api.Part{Kind: 99}
	}
	refused(t, "model 9 9 { cm 1 1 } code { halt } post 7 7 { halt", api.ErrSyntax, 1)
	same(t, text, first, want)
	same(t, text, parsed(t, text), want)
}

func BenchmarkParse(b *testing.B) {
	text := "model 1 2 { cm 8 255 } code { " + strings.Repeat("do { a ^= *d a-- } while a > 0\n", 166) + "}"
	b.SetBytes(int64(len(text)))
	for b.Loop() {
		if _, f := Parse(text); f.Err != api.OK {
			b.Fatal(f)
		}
	}
}

func BenchmarkLeast(b *testing.B) {
	for b.Loop() {
		Parse("model 0 0 { } code { }")
	}
}
