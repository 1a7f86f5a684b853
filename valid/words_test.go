package valid

import "quillpress/api"

// The chapter's words once more, without package code, without a map: what a code says is marked place by place.

// lengthOf is how many bytes an instruction has that begins so; 0, if none does.
func lengthOf(first byte) int {
	op, low := first/8, first%8
	switch {
	case op == 31:
		return 0
	case op >= 8 && op <= 21 && low == 7:
		return 2
	case op >= 8 && op <= 21:
		return 1
	case op >= 1 && op <= 7 && low == 7, op == 22 && low > 3:
		return 0
	case (op == 0 || op >= 23) && low != 0:
		return 0
	case op == 1, op == 2, op == 22, op == 23, op >= 27 && op <= 29:
		return 2
	case op == 30:
		return 3
	}
	return 1
}

// targetOf is where the instruction at a place goes to, if it is a jump.
func targetOf(b []byte, at int) (int, bool) {
	switch b[at] / 8 {
	case 27, 28, 29:
		far := int(b[at+1])
		if far >= 128 {
			far -= 256
		}
		return at + 2 + far, true
	case 30:
		return 256*int(b[at+1]) + int(b[at+2]), true
	}
	return 0, false
}

// stands tells whether there is an instruction at a place of b.
func stands(b []byte, at int) bool {
	n := lengthOf(b[at])
	if n == 0 || at+n > len(b) {
		return false
	}
	if b[at]/8 == 1 && b[at+1] > 6 {
		return false
	}
	to, ok := targetOf(b, at)
	return !ok || to >= 0
}

// startsOf is what Starts says of b.
func startsOf(b []byte) ([]int, api.Errno) {
	if len(b) > 4096 {
		return nil, api.ErrLong
	}
	if len(b) == 0 {
		return nil, api.ErrCode
	}
	var l []int
	for at := 0; at < len(b); at += lengthOf(b[at]) {
		if !stands(b, at) {
			return nil, api.ErrCode
		}
		l = append(l, at)
	}
	return l, api.OK
}

// checkOf is what Check says of b.
func checkOf(b []byte, post bool) api.Errno {
	l, e := startsOf(b)
	if e != api.OK {
		return e
	}
	var marks [4096]bool
	for _, at := range l {
		marks[at] = true
	}
	for _, at := range l {
		to, ok := targetOf(b, at)
		if ok && (to >= len(b) || !marks[to]) {
			return api.ErrCode
		}
		if b[at] == 208 && !post {
			return api.ErrCode
		}
	}
	switch b[l[len(l)-1]] {
	case 0, 232, 240:
		return api.OK
	}
	return api.ErrCode
}
