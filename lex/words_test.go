package lex

import "quillpress/api"

// signsOf is the chapter's line of signs once more.
const signsOf = "{ } = == < > += -= *= /= %= &= &~= |= ^= <<= >>= ++ -- ~ *"

// isSign tells whether s stands in that line, between its blanks.
func isSign(s string) bool {
	word := ""
	for _, c := range []byte(signsOf + " ") {
		if c != ' ' {
			word += string(rune(c))
			continue
		}
		if word == s {
			return true
		}
		word = ""
	}
	return false
}

// wordsTokens reads the chapter's words byte by byte: what stands at a place, what is longest there, which line it is.
func wordsTokens(text string) ([]api.Token, api.Fault) {
	if len(text) > 16384 {
		return nil, api.Fault{Err: api.ErrLong}
	}
	at := func(i int) byte {
		if i < len(text) {
			return text[i]
		}
		return 0
	}
	lineAt := func(i int) int {
		n := 1
		for _, c := range []byte(text[:i]) {
			if c == 10 {
				n++
			}
		}
		return n
	}
	isLetter := func(c byte) bool { return c > 96 && c < 123 }
	isDigit := func(c byte) bool { return c > 47 && c < 58 }
	var l []api.Token
	for i := 0; i < len(text); {
		c := text[i]
		if c == 32 || c == 9 || c == 13 || c == 10 {
			i++
			continue
		}
		if c == 35 {
			for i < len(text) && text[i] != 10 {
				i++
			}
			continue
		}
		t := api.Token{Line: lineAt(i)}
		from := i
		if isLetter(c) {
			for isLetter(at(i)) {
				i++
			}
			t.Kind, t.S = 1, text[from:i]
		} else if isDigit(c) {
			for isDigit(at(i)) {
				if i-from == 5 {
					return nil, api.Fault{Err: api.ErrToken, Line: t.Line}
				}
				t.N = t.N*10 + int(text[i]-48)
				i++
			}
			if t.N > 65535 {
				return nil, api.Fault{Err: api.ErrToken, Line: t.Line}
			}
			t.Kind = 2
		} else {
			for n := 1; n <= 3 && from+n <= len(text); n++ {
				if isSign(text[from : from+n]) {
					t.Kind, t.S, i = 3, text[from:from+n], from+n
				}
			}
			if t.Kind == 0 {
				return nil, api.Fault{Err: api.ErrToken, Line: t.Line}
			}
		}
		l = append(l, t)
	}
	return append(l, api.Token{Kind: 4, Line: lineAt(len(text))}), api.Fault{}
}
