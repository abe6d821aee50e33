// Package hex is layer 1, hex digits, and codes of bytes: see shared/doc/01-hex.md.
package hex

import "hornbook/api"

// What kinds tells of a byte. 0 means neither, so that only blanks and digits need a line there.
const (
	blank = 1
	digit = 2 // and the digit's value on top
)

// kinds ends at 'f': no byte behind it is a blank or a digit.
var kinds = [...]uint8{
	0: blank, 9: blank, 10: blank, 12: blank, 13: blank, 32: blank,
	'0': digit + 0, '1': digit + 1, '2': digit + 2, '3': digit + 3, '4': digit + 4,
	'5': digit + 5, '6': digit + 6, '7': digit + 7, '8': digit + 8, '9': digit + 9,
	'A': digit + 10, 'B': digit + 11, 'C': digit + 12, 'D': digit + 13, 'E': digit + 14, 'F': digit + 15,
	'a': digit + 10, 'b': digit + 11, 'c': digit + 12, 'd': digit + 13, 'e': digit + 14, 'f': digit + 15,
}

// capitals are the digits as they are written, by their values.
const capitals = "0123456789ABCDEF"

// maxBytes is how many bytes a code has at the most.
const maxBytes = 4

// kind is what kinds tells of c, which may be no byte at all.
func kind(c int) int {
	if c < 0 || c >= len(kinds) {
		return 0
	}
	return int(kinds[c])
}

// Digit is a digit's value.
func Digit(c int) (int, bool) {
	k := kind(c)
	if k < digit {
		return 0, false
	}
	return k - digit, true
}

// White: is it a blank?
func White(c int) bool { return kind(c) == blank }

// Hex is bytes by digits.
func Hex(b []byte) string {
	out := make([]byte, 0, 2*len(b))
	for _, c := range b {
		out = append(out, capitals[c>>4], capitals[c&15])
	}
	return string(out)
}

// UnHex is digits' bytes, and how long s is; or the place of the first byte that may not be there.
func UnHex(s string) ([]byte, int, api.Errno) {
	var out []byte
	half := false // the last byte has its high digit alone: its low one is 0 unless another digit comes
	for at := 0; at < len(s); at++ {
		c := int(s[at])
		if White(c) {
			continue
		}
		v, ok := Digit(c)
		if !ok {
			return nil, at, api.ErrHex
		}
		if half {
			out[len(out)-1] |= byte(v)
		} else {
			out = append(out, byte(v<<4))
		}
		half = !half
	}
	return out, len(s), api.OK
}

// Sane: may a code be?
func Sane(c api.Code) bool {
	// N goes first: a shift by a number below 0 would panic.
	return c.N >= 1 && c.N <= maxBytes && c.V >= 0 && c.V < 1<<(8*c.N)
}

// Val is bytes as a code.
func Val(b []byte) (api.Code, bool) {
	if len(b) < 1 || len(b) > maxBytes {
		return api.Code{}, false
	}
	v := 0
	for _, x := range b {
		v = v<<8 | int(x)
	}
	return api.Code{N: len(b), V: v}, true
}

// Bytes is a code's bytes.
func Bytes(c api.Code) []byte {
	if !Sane(c) {
		return nil
	}
	out := make([]byte, c.N)
	v := c.V
	for i := c.N - 1; i >= 0; i-- {
		out[i] = byte(v)
		v >>= 8
	}
	return out
}

// Text is a code, written.
func Text(c api.Code) string {
	if !Sane(c) {
		return ""
	}
	return "<" + Hex(Bytes(c)) + ">"
}
