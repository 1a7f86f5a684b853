package lex

import (
	"math/rand"
	"slices"
	"strconv"
	"strings"
	"testing"

	"quillpress/api"
)

// Short forms of what is wanted.
func word(s string) api.Token { return api.Token{Kind: api.TWord, S: s} }
func num(n int) api.Token     { return api.Token{Kind: api.TNum, N: n} }
func sgn(s string) api.Token  { return api.Token{Kind: api.TSign, S: s} }

// in is t in a line.
func in(line int, t api.Token) api.Token {
	t.Line = line
	return t
}

// gives asks for these tokens, all of line 1, and for the end behind them.
func gives(t *testing.T, text string, want ...api.Token) {
	t.Helper()
	for i := range want {
		want[i].Line = 1
	}
	stand(t, text, append(want, api.Token{Kind: api.TEnd, Line: 1})...)
}

// stand asks for these tokens, with their lines and the end.
func stand(t *testing.T, text string, want ...api.Token) {
	t.Helper()
	l, f := Tokens(text)
	if f != (api.Fault{}) || !slices.Equal(l, want) {
		t.Fatalf("%.200q: %v, %v; not %v", text, l, f, want)
	}
}

// refused asks for a fault, and for nothing beside it.
func refused(t *testing.T, text string, want api.Fault) {
	t.Helper()
	if l, f := Tokens(text); f != want || len(l) != 0 {
		t.Fatalf("%.200q: %v, %v; not %v", text, l, f, want)
	}
}

// noToken asks for ErrToken in this line.
func noToken(t *testing.T, text string, line int) {
	t.Helper()
	refused(t, text, api.Fault{Err: api.ErrToken, Line: line})
}

// asTold holds what is said of text against the words, and tells whether it has tokens.
func asTold(t *testing.T, text string) bool {
	t.Helper()
	want, fault := wordsTokens(text)
	l, f := Tokens(text)
	if f != fault || !slices.Equal(l, want) {
		t.Fatalf("%.200q: %v, %v; not %v, %v", text, l, f, want, fault)
	}
	return f == api.Fault{}
}

// bare is l with no lines.
func bare(l []api.Token) []api.Token {
	l = slices.Clone(l)
	for i := range l {
		l[i].Line = 0
	}
	return l
}

// saying is a token as it may stand in a text.
func saying(t api.Token) string {
	switch t.Kind {
	case api.TNum:
		return strconv.Itoa(t.N)
	case api.TEnd:
		return ""
	}
	return t.S
}

// The chapter's examples.
func TestExamples(t *testing.T) {
	gives(t, "a+=5", word("a"), sgn("+="), num(5))
	gives(t, "*d = a # x", sgn("*"), word("d"), sgn("="), word("a"))
	gives(t, "a&~=b", word("a"), sgn("&~="), word("b"))
	noToken(t, "a & b", 1)
	noToken(t, "70000", 1)
	stand(t, "a\nb", in(1, word("a")), in(2, word("b")), api.Token{Kind: api.TEnd, Line: 2})
}

// P18.1: blanks and remarks are passed over; what is not one of them is not.
func TestPassedOver(t *testing.T) {
	gives(t, "")
	gives(t, " ")
	gives(t, " \t\r ")
	gives(t, "#")
	gives(t, "# a 1 { ? \x00\xff é # #")
	gives(t, "a#b", word("a"))
	gives(t, "5#5", num(5))
	gives(t, "+=#=", sgn("+="))
	gives(t, "\ta\r", word("a"))
	stand(t, "\n", api.Token{Kind: api.TEnd, Line: 2})
	stand(t, "#\n", api.Token{Kind: api.TEnd, Line: 2})
	stand(t, "# a\nb", in(2, word("b")), api.Token{Kind: api.TEnd, Line: 2})
	stand(t, "#a\n#b\nc#d\n", in(3, word("c")), api.Token{Kind: api.TEnd, Line: 4})
	// A remark goes on to byte 10: 13 does not end it, nor does any rune that only looks so.
	gives(t, "# a\rb")
	gives(t, "# a\u2028b\u0085c\u010ad")
	for c := range 256 {
		text := string([]byte{byte(c)})
		switch {
		case c == 10:
			stand(t, text+"a", in(2, word("a")), api.Token{Kind: api.TEnd, Line: 2})
		case c == 9 || c == 13 || c == 32:
			gives(t, text)
			gives(t, "a"+text+"b", word("a"), word("b"))
			gives(t, "1"+text+"2", num(1), num(2))
			gives(t, "="+text+"=", sgn("="), sgn("="))
		case c == '#':
			gives(t, "a"+text+"b", word("a"))
		case c >= 'a' && c <= 'z':
			gives(t, text, word(text))
		case c >= '0' && c <= '9':
			gives(t, text, num(c-'0'))
		case strings.IndexByte("{}=<>~*", byte(c)) >= 0:
			gives(t, text, sgn(text))
		default:
			noToken(t, text, 1)
			noToken(t, "a\n"+text+"b", 2)
		}
		if c != 10 {
			gives(t, "a #"+text+"b c", word("a"))
		}
	}
}

// P18.1: a word is as long as its letters go on, a to z alone.
func TestWords(t *testing.T) {
	gives(t, "abcdefghijklmnopqrstuvwxyz", word("abcdefghijklmnopqrstuvwxyz"))
	gives(t, "a b", word("a"), word("b"))
	gives(t, "hashd", word("hashd"))
	gives(t, "a1b22c", word("a"), num(1), word("b"), num(22), word("c"))
	gives(t, "a{b}", word("a"), sgn("{"), word("b"), sgn("}"))
	noToken(t, "aB", 1)
	noToken(t, "A", 1)
	noToken(t, "Z", 1)
	noToken(t, "a_b", 1)
	noToken(t, "a`", 1)
	noToken(t, "a.b", 1)
	noToken(t, "aé", 1)
	// Letters elsewhere in Unicode, and those whose last byte alone would be one.
	noToken(t, "\u0161", 1)
	noToken(t, "\uff41", 1)
	noToken(t, "a\u0130", 1)
	long := strings.Repeat("z", api.MaxConfig)
	gives(t, long, word(long))
}

// P18.1: a number has at most five digits and is at most 65535.
func TestNumbers(t *testing.T) {
	for n := range 100000 {
		text := strconv.Itoa(n)
		if n > 65535 {
			noToken(t, text, 1)
			continue
		}
		gives(t, text, num(n))
	}
	for _, s := range []string{"00", "000", "0000", "00000"} {
		gives(t, s, num(0))
	}
	gives(t, "00001", num(1))
	gives(t, "08", num(8))
	gives(t, "00065", num(65))
	gives(t, "1 2", num(1), num(2))
	gives(t, "65535a", num(65535), word("a"))
	// What is too long is not two numbers.
	for _, s := range []string{"000000", "000001", "065535", "100000", "655350", "655351", "123456", "99999999999999999999", strings.Repeat("0", 16384)} {
		noToken(t, s, 1)
	}
	noToken(t, "\n\n65536", 3)
	noToken(t, "1 2\n3 70000 4\n", 2)
	noToken(t, "a\n # 70000\n1000000\n", 3)
	noToken(t, "-5", 1)
	noToken(t, "+5", 1)
	noToken(t, "1.5", 1)
	noToken(t, "1_000", 1)
	noToken(t, "\u0661", 1)
	noToken(t, "1\uff11", 1)
}

// P18.1: a sign is the longest that stands there.
func TestSigns(t *testing.T) {
	for _, s := range strings.Fields(signsOf) {
		gives(t, s, sgn(s))
		gives(t, "a"+s+"b", word("a"), sgn(s), word("b"))
		gives(t, "1"+s+"2", num(1), sgn(s), num(2))
		gives(t, s+" "+s, sgn(s), sgn(s))
		gives(t, s+"#"+s, sgn(s))
	}
	gives(t, "===", sgn("=="), sgn("="))
	gives(t, "====", sgn("=="), sgn("=="))
	gives(t, "<=", sgn("<"), sgn("="))
	gives(t, ">==", sgn(">"), sgn("=="))
	gives(t, "~=", sgn("~"), sgn("="))
	gives(t, "**=", sgn("*"), sgn("*="))
	gives(t, "*==", sgn("*="), sgn("="))
	gives(t, "{}", sgn("{"), sgn("}"))
	gives(t, "<>", sgn("<"), sgn(">"))
	gives(t, "++++", sgn("++"), sgn("++"))
	gives(t, "++=", sgn("++"), sgn("="))
	gives(t, "---=", sgn("--"), sgn("-="))
	gives(t, "~*b", sgn("~"), sgn("*"), word("b"))
	// << and >> are no signs: each of them is two, till = stands behind the last.
	gives(t, "<<", sgn("<"), sgn("<"))
	gives(t, "<<a", sgn("<"), sgn("<"), word("a"))
	gives(t, "<<==", sgn("<<="), sgn("="))
	gives(t, "<<<=", sgn("<"), sgn("<<="))
	gives(t, ">>>=", sgn(">"), sgn(">>="))
	gives(t, "<< =", sgn("<"), sgn("<"), sgn("="))
	gives(t, "&==", sgn("&="), sgn("="))
	for _, s := range []string{"+", "-", "/", "%", "&", "&~", "|", "^", "!", "!=", "&&=", "&~~=", "& =", "+ =", "+++", "---", "+-", "/a", "(", ")", ";", ",", "&\n="} {
		noToken(t, s, 1)
	}
}

// P18.1: each token has its line, the end that of the text's end; so has a fault.
func TestLines(t *testing.T) {
	stand(t, "\na\n\n5 <\n# x\n\t{", in(2, word("a")), in(4, num(5)), in(4, sgn("<")), in(6, sgn("{")), api.Token{Kind: api.TEnd, Line: 6})
	stand(t, "a\r\nb\rc\r\n", in(1, word("a")), in(2, word("b")), in(2, word("c")), api.Token{Kind: api.TEnd, Line: 3})
	stand(t, strings.Repeat("\n", 16384), api.Token{Kind: api.TEnd, Line: 16385})
	stand(t, strings.Repeat("#\n", 8190)+"<", in(8191, sgn("<")), api.Token{Kind: api.TEnd, Line: 8191})
	noToken(t, strings.Repeat("\n", 16383)+"?", 16384)
	noToken(t, "a\n#?\n b ?\n?", 3)
	noToken(t, "?\n?", 1)
}

// P18.1: a text has at most 16384 bytes; its length is asked first.
func TestLong(t *testing.T) {
	long := api.Fault{Err: api.ErrLong}
	gives(t, strings.Repeat(" ", 16384))
	refused(t, strings.Repeat(" ", 16385), long)
	refused(t, "?"+strings.Repeat("\n", 16384), long)
	refused(t, strings.Repeat("?", 16385), long)
	refused(t, strings.Repeat("9", 1<<20), long)
	noToken(t, strings.Repeat("?", 16384), 1)
	// Bytes are counted, not runes.
	gives(t, "#"+strings.Repeat("é", 8191)+"x")
	refused(t, "#"+strings.Repeat("é", 8192), long)
	l, f := Tokens(strings.Repeat("{", 16384))
	if len(l) != 16385 || f != (api.Fault{}) {
		t.Fatal(len(l), f)
	}
}

// P18.1: all texts of few bytes of each kind, held against the words.
func TestShortTexts(t *testing.T) {
	const kinds = "{}=<>+-*/%&~|^#\n az09?\xc3"
	right, wrong := 0, 0
	var all func(text string, more int)
	all = func(text string, more int) {
		if asTold(t, text) {
			right++
		} else {
			wrong++
		}
		if more == 0 {
			return
		}
		for i := range len(kinds) {
			all(text+kinds[i:i+1], more-1)
		}
	}
	all("", 4)
	if right < 50000 || wrong < 50000 {
		t.Fatal(right, wrong)
	}
}

// P18.1: all pairs of bytes, alone and between tokens.
func TestPairs(t *testing.T) {
	for a := range 256 {
		for b := range 256 {
			s := string([]byte{byte(a), byte(b)})
			asTold(t, s)
			asTold(t, "a"+s+"=\n5")
		}
	}
}

// someText is a text of tokens, blanks, remarks and, now and then, other bytes.
func someText(r *rand.Rand, wrong int) string {
	pieces := append(strings.Fields(signsOf), "a", "bc", "hashd", "0", "7", "65535", "00012", " ", "\n", "\t", "\r\n", "# x & 70000 é\n", "#\n")
	bad := []string{"?", "65536", "000000", "A", "&", "+ ", "/a", "\x00", "é", "\xff"}
	var b strings.Builder
	for range r.Intn(60) {
		if r.Intn(100) < wrong {
			b.WriteString(bad[r.Intn(len(bad))])
			continue
		}
		b.WriteString(pieces[r.Intn(len(pieces))])
		if r.Intn(2) == 0 {
			b.WriteByte(' ')
		}
	}
	return b.String()
}

// P18.1: chance texts, held against the words.
func TestChanceTexts(t *testing.T) {
	r := rand.New(rand.NewSource(18))
	right, wrong := 0, 0
	for range 20000 {
		if asTold(t, someText(r, r.Intn(4))) {
			right++
		} else {
			wrong++
		}
	}
	if right < 3000 || wrong < 3000 {
		t.Fatal(right, wrong)
	}
	for range 2000 {
		b := make([]byte, r.Intn(300))
		for i := range b {
			b[i] = byte(r.Intn(256))
		}
		asTold(t, string(b))
		asTold(t, "# "+string(b)+"\na")
	}
}

// P18.2: the tokens, said one by one with blanks between, are the same tokens; more blanks and remarks between them change nothing but lines.
func TestSaidAgain(t *testing.T) {
	r := rand.New(rand.NewSource(182))
	between := []string{" ", "\t", "\r", "\n", "  ", "# x\n", "\n\n#?70000\n", " #\n "}
	tried := 0
	for range 20000 {
		l, f := Tokens(someText(r, 0))
		if f != (api.Fault{}) {
			continue
		}
		tried++
		var plain, wide strings.Builder
		line := 1
		want := slices.Clone(l)
		for i, k := range l {
			for range r.Intn(3) + 1 {
				s := between[r.Intn(len(between))]
				wide.WriteString(s)
				line += strings.Count(s, "\n")
			}
			want[i].Line = line
			plain.WriteString(" " + saying(k))
			wide.WriteString(saying(k))
		}
		same, f := Tokens(plain.String())
		if f != (api.Fault{}) || !slices.Equal(bare(same), bare(l)) {
			t.Fatalf("%q: %v, %v", plain.String(), same, f)
		}
		stand(t, wide.String(), want...)
	}
	if tried < 5000 {
		t.Fatal(tried)
	}
}

// P18.2: where tokens are parted, though by nothing, there may be a blank or a remark.
func TestWiderWhereParted(t *testing.T) {
	for _, c := range [][]string{{"a", "5"}, {"5", "a"}, {"a", "+=", "5"}, {"*", "d", "=", "*", "b"}, {"<", "<", "a"}, {"==", "="}, {"++", "="}, {"~", "="}, {"{", "a", "--", "}"}} {
		near, f := Tokens(strings.Join(c, ""))
		if f != (api.Fault{}) || len(near) != len(c)+1 {
			t.Fatal(c, near, f)
		}
		for _, s := range []string{" ", "\n", "\t\r", "#\n", " # + \n "} {
			if far, f := Tokens(strings.Join(c, s)); f != (api.Fault{}) || !slices.Equal(bare(far), bare(near)) {
				t.Fatal(c, far, f)
			}
		}
	}
	// Inside a token there may not.
	gives(t, "ab", word("ab"))
	gives(t, "a b", word("a"), word("b"))
	gives(t, "< <=", sgn("<"), sgn("<"), sgn("="))
}

// Rules: each call hands out a list of its own, spare room too, and has nothing left of the last one.
func TestApart(t *testing.T) {
	const text = "a = 5 # x\n{ b++ }"
	first, _ := Tokens(text)
	want := slices.Clone(first)
	second, _ := Tokens(text)
	second = second[:cap(second)]
	for i := range second {
		second[i] = api.Token{Kind: 9, S: "x", N: 9, Line: 9}
	}
	noToken(t, "b ?", 1)
	if !slices.Equal(first, want) {
		t.Fatal(first)
	}
	stand(t, text, want...)
}

func BenchmarkTokens(b *testing.B) {
	text := strings.Repeat("do { a ^= *d a-- } while a > 0 # x\n", 16384/35)
	b.SetBytes(int64(len(text)))
	for b.Loop() {
		if _, f := Tokens(text); f.Err != api.OK {
			b.Fatal(f)
		}
	}
}

func BenchmarkRemark(b *testing.B) {
	text := "#" + strings.Repeat("x", 16383)
	b.SetBytes(int64(len(text)))
	for b.Loop() {
		Tokens(text)
	}
}
