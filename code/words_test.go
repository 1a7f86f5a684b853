package code

import "quillpress/api"

// line is a line of the chapter's table once more, with OAdd to OGt in two of them: the Ops it is for, the least and the greatest D, S and N, and what stands behind the first byte.
type line struct {
	from, to     api.Op
	d, s, n      [2]int
	behind       func(i api.Ins, at int) []int
	sInFirstByte bool
}

func nothing(api.Ins, int) []int      { return nil }
func theS(i api.Ins, at int) []int    { return []int{i.S} }
func theN(i api.Ins, at int) []int    { return []int{i.N} }
func bothOfN(i api.Ins, at int) []int { return []int{i.N / 256, i.N % 256} }
func lessPlace(i api.Ins, at int) []int {
	n := i.N - at - 2
	if n < 0 {
		n += 256
	}
	return []int{n}
}

// table is the chapter's.
var table = []line{
	{from: 0, to: 0, behind: nothing},
	{from: 1, to: 1, d: [2]int{0, 6}, s: [2]int{0, 6}, behind: theS},
	{from: 2, to: 2, d: [2]int{0, 6}, n: [2]int{0, 255}, behind: theN},
	{from: 3, to: 7, d: [2]int{0, 6}, behind: nothing},
	{from: 8, to: 21, s: [2]int{0, 6}, behind: nothing, sInFirstByte: true},
	{from: 8, to: 21, s: [2]int{7, 7}, n: [2]int{0, 255}, behind: theN, sInFirstByte: true},
	{from: 22, to: 22, d: [2]int{0, 3}, n: [2]int{0, 255}, behind: theN},
	{from: 23, to: 23, n: [2]int{0, 255}, behind: theN},
	{from: 24, to: 26, behind: nothing},
	{from: 27, to: 29, n: [2]int{0, 65535}, behind: lessPlace},
	{from: 30, to: 30, n: [2]int{0, 65535}, behind: bothOfN},
}

// lineOf is the line that has i; false, if i is not right.
func lineOf(i api.Ins) (line, bool) {
	in := func(n int, ends [2]int) bool { return n >= ends[0] && n <= ends[1] }
	for _, l := range table {
		if i.Op >= l.from && i.Op <= l.to && in(i.D, l.d) && in(i.S, l.s) && in(i.N, l.n) {
			return l, true
		}
	}
	return line{}, false
}

// bytesOf is what i's bytes are at a place; or the error that Put tells.
func bytesOf(i api.Ins, at int) ([]byte, api.Errno) {
	l, ok := lineOf(i)
	if !ok {
		return nil, api.ErrCode
	}
	if at < 0 || at > 65535 {
		return nil, api.ErrArg
	}
	if i.Op >= 27 && i.Op <= 29 && (i.N-(at+2) < -128 || i.N-(at+2) > 127) {
		return nil, api.ErrJump
	}
	low := i.D
	if l.sInFirstByte {
		low = i.S
	}
	b := []byte{byte(8*int(i.Op) + low)}
	for _, n := range l.behind(i, at) {
		b = append(b, byte(n))
	}
	return b, api.OK
}

// each tells all right instructions.
func each(yield func(api.Ins)) {
	for _, l := range table {
		for op := l.from; op <= l.to; op++ {
			for d := l.d[0]; d <= l.d[1]; d++ {
				for s := l.s[0]; s <= l.s[1]; s++ {
					for n := l.n[0]; n <= l.n[1]; n++ {
						yield(api.Ins{Op: op, D: d, S: s, N: n})
					}
				}
			}
		}
	}
}

// dictionary has all instructions that may stand at a place, by their bytes; and how many bytes are asked by each first one.
type dictionary struct {
	at    int
	means map[string]api.Ins
	bytes [256]int
}

// newDictionary is that of a place.
func newDictionary(at int) *dictionary {
	x := &dictionary{at: at, means: map[string]api.Ins{}}
	each(func(i api.Ins) {
		if b, e := bytesOf(i, at); e == api.OK {
			x.means[string(b)] = i
			x.bytes[b[0]] = len(b)
		}
	})
	return x
}

// get is what Get says of b, which stands at the dictionary's place, up to the end of all bytes.
func (x *dictionary) get(b []byte) (api.Ins, int, api.Errno) {
	n := x.bytes[b[0]]
	if n == 0 {
		return api.Ins{}, 0, api.ErrCode
	}
	if n > len(b) {
		return api.Ins{}, 0, api.ErrShort
	}
	i, ok := x.means[string(b[:n])]
	if !ok {
		return api.Ins{}, 0, api.ErrCode
	}
	return i, x.at + n, api.OK
}
