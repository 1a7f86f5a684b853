// Package octets is layer 1: how an archive has its numbers and texts in bytes. See shared/doc/01-octets.md.
package octets

import (
	"math/bits"

	"quillpress/api"
)

// number is every kind of number that an archive has in bytes.
type number interface {
	uint8 | uint16 | uint32 | uint64
}

// width is how many bytes a number of that kind has. Its greatest number tells it, so that no caller can name a kind and a length that don't fit.
func width[N number]() int {
	return bits.Len64(uint64(^N(0))) / 8
}

// ask is the number that stands at a place.
func ask[N number](b []byte, at int) (N, bool) {
	n := width[N]()
	// at+n would wrap at the greatest places.
	if at < 0 || at > len(b)-n {
		return 0, false
	}
	var v uint64
	for _, c := range b[at : at+n] {
		v = v<<8 | uint64(c)
	}
	return N(v), true
}

// put is a copy of b with a number behind it: appending to b itself would write into its spare room.
func put[N number](b []byte, v N) []byte {
	out := make([]byte, len(b)+width[N]())
	copy(out, b)
	rest := uint64(v)
	for i := len(out) - 1; i >= len(b); i-- {
		out[i] = byte(rest)
		rest >>= 8
	}
	return out
}

// U8 is the number of one byte that stands at the place at of b.
func U8(b []byte, at int) (uint8, bool) {
	return ask[uint8](b, at)
}

// U16 is the number of two bytes that stands at the place at of b.
func U16(b []byte, at int) (uint16, bool) {
	return ask[uint16](b, at)
}

// U32 is the number of four bytes that stands at the place at of b.
func U32(b []byte, at int) (uint32, bool) {
	return ask[uint32](b, at)
}

// U64 is the number of eight bytes that stands at the place at of b.
func U64(b []byte, at int) (uint64, bool) {
	return ask[uint64](b, at)
}

// Add8 is b, and a number of one byte behind it.
func Add8(b []byte, v uint8) []byte {
	return put(b, v)
}

// Add16 is b, and a number of two bytes behind it.
func Add16(b []byte, v uint16) []byte {
	return put(b, v)
}

// Add32 is b, and a number of four bytes behind it.
func Add32(b []byte, v uint32) []byte {
	return put(b, v)
}

// Add64 is b, and a number of eight bytes behind it.
func Add64(b []byte, v uint64) []byte {
	return put(b, v)
}

// AddText is b, and a text behind it.
func AddText(b []byte, s string) ([]byte, api.Errno) {
	if len(s) > api.MaxString {
		return nil, api.ErrLong
	}
	// Add16 has made new memory: what stands behind b is not touched.
	return append(Add16(b, uint16(len(s))), s...), api.OK
}

// Text is the text that stands at the place at of b, and where it ends.
func Text(b []byte, at int) (string, int, bool) {
	n, ok := U16(b, at)
	if !ok {
		return "", 0, false
	}
	from := at + 2
	to := from + int(n)
	if to > len(b) {
		return "", 0, false
	}
	return string(b[from:to]), to, true
}
