// Package sum is sums of bytes: see DOC.md, chapter 1.
package sum

// fold goes in for each bit that falls out. Its highest bit is set, so that a
// turned sum tells whether a bit fell out: no two sums turn into one, and a
// byte's unlikeness is never lost (1.2).
const fold = 0xA3000000 + 0x00D45B15

// start is not zero: zero bytes at the beginning would leave a sum of zero as
// it is, however many they were.
const start = 0xFFFFFFFF

// Of is the sum of b.
func Of(b []byte) uint32 { return ^More(start, b) }

// More is the sum s, not yet ended, with b behind it.
func More(s uint32, b []byte) uint32 {
	for _, c := range b {
		s = Turn(s, c)
	}
	return s
}

// Turn is the sum s, not yet ended, with c behind it.
func Turn(s uint32, c byte) uint32 {
	s ^= uint32(c)
bits:
	for left := 8; ; left-- {
		switch {
		case left == 0:
			break bits
		case s&1 == 0:
			s >>= 1
			continue bits
		}
		s = s>>1 ^ fold
	}
	return s
}
