// Package word is layer 1: arithmetic on 128-bit numbers, modulo 2^128.
package word

import (
	"math/bits"

	"turnout/api"
)

const (
	half = 64 // bits of each half of a word
	long = 16 // bytes of a word's text
)

// New returns lo as a word.
func New(lo uint64) api.Word {
	return api.Word{Lo: lo}
}

// Add returns a plus b.
func Add(a, b api.Word) api.Word {
	lo, carry := bits.Add64(a.Lo, b.Lo, 0)
	hi, _ := bits.Add64(a.Hi, b.Hi, carry)
	return api.Word{Hi: hi, Lo: lo}
}

// Sub returns a minus b.
func Sub(a, b api.Word) api.Word {
	lo, borrow := bits.Sub64(a.Lo, b.Lo, 0)
	hi, _ := bits.Sub64(a.Hi, b.Hi, borrow)
	return api.Word{Hi: hi, Lo: lo}
}

// And returns the bits that a and b both have.
func And(a, b api.Word) api.Word {
	return api.Word{Hi: a.Hi & b.Hi, Lo: a.Lo & b.Lo}
}

// Or returns the bits that a or b has.
func Or(a, b api.Word) api.Word {
	return api.Word{Hi: a.Hi | b.Hi, Lo: a.Lo | b.Lo}
}

// Xor returns the bits that just one of a and b has.
func Xor(a, b api.Word) api.Word {
	return api.Word{Hi: a.Hi ^ b.Hi, Lo: a.Lo ^ b.Lo}
}

// Not returns the bits that a does not have.
func Not(a api.Word) api.Word {
	return api.Word{Hi: ^a.Hi, Lo: ^a.Lo}
}

// Left returns a shifted left by n bits; n below 0 counts as 0.
func Left(a api.Word, n int) api.Word {
	n = max(n, 0)
	if n >= half {
		return api.Word{Hi: a.Lo << (n - half)}
	}
	return api.Word{Hi: a.Hi<<n | a.Lo>>(half-n), Lo: a.Lo << n}
}

// Right returns a shifted right by n bits; n below 0 counts as 0.
func Right(a api.Word, n int) api.Word {
	n = max(n, 0)
	if n >= half {
		return api.Word{Lo: a.Hi >> (n - half)}
	}
	return api.Word{Hi: a.Hi >> n, Lo: a.Lo>>n | a.Hi<<(half-n)}
}

// Compare returns -1 if a is less than b, 0 if they are equal, 1 if a is greater.
func Compare(a, b api.Word) int {
	if a == b {
		return 0
	}
	if a.Hi < b.Hi || a.Hi == b.Hi && a.Lo < b.Lo {
		return -1
	}
	return 1
}

// Mask returns the word of which just the width lowest bits are set.
func Mask(width int) api.Word {
	return Not(Left(Not(api.Word{}), width))
}

// Cut returns the width lowest bits of a.
func Cut(a api.Word, width int) api.Word {
	return And(a, Mask(width))
}

// Size returns how many bits a has from its highest set bit down.
func Size(a api.Word) int {
	if a.Hi != 0 {
		return half + bits.Len64(a.Hi)
	}
	return bits.Len64(a.Lo)
}

// Text returns the 16 bytes of a, the highest first.
func Text(a api.Word) string {
	var text [long]byte
	for i := range text {
		text[i] = byte(Right(a, 8*(long-1-i)).Lo)
	}
	return string(text[:])
}

// Of returns the word whose text is s behind zero bytes; ErrLong if s has more than 16 bytes.
func Of(s string) (api.Word, api.Errno) {
	if len(s) > long {
		return api.Word{}, api.ErrLong
	}
	var w api.Word
	for i := range len(s) {
		w = Or(Left(w, 8), New(uint64(s[i])))
	}
	return w, api.OK
}
