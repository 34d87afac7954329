package sum_test

import (
	"bytes"
	"testing"

	"lavabo/sum"
)

// upTo is the bytes 0 to n-1.
func upTo(n int) []byte {
	b := make([]byte, n)
	for i := range b {
		b[i] = byte(i)
	}
	return b
}

// 1.1: Turn, at sums and bytes worked out apart from the program.
func TestTurn(t *testing.T) {
	for _, x := range []struct {
		s    uint32
		c    byte
		want uint32
	}{
		{0, 0, 0},
		{0, 0x01, 0x3A59C6A5},
		{1, 0, 0x3A59C6A5}, // the byte goes into the lowest one
		{0, 0x40, 0xF23E769F},
		{0, 0x80, 0xA3D45B15}, // falls out last
		{0x80, 0x80, 0},
		{0, 0xFF, 0xD4AF2F85},
		{0x100, 0, 1},
		{0xFFFFFFFF, 0, 0xD450D07A},
		{0xFFFFFFFF, 0xFF, 0x00FFFFFF},
		{0x12345678, 0x9A, 0xFF80F4CC},
		{1 << 31, 0, 1 << 23}, // no sign is drawn in from above
	} {
		if got := sum.Turn(x.s, x.c); got != x.want {
			t.Errorf("Turn(%#x, %#x) = %#x, want %#x", x.s, x.c, got, x.want)
		}
	}
}

// 1.1: each bit alone, and that what several bits do is what each does.
func TestTurnBits(t *testing.T) {
	for i := range 32 {
		want := uint32(1) << i >> 8
		if i < 8 {
			want = 0xA3D45B15
			for range 7 - i {
				out := want & 1
				want >>= 1
				if out == 1 {
					want ^= 0xA3D45B15
				}
			}
		}
		if got := sum.Turn(1<<i, 0); got != want {
			t.Errorf("Turn(1<<%d, 0) = %#x, want %#x", i, got, want)
		}
	}
	for _, s := range []uint32{0, 1, 0x80, 0xFF, 0x100, 0x12345678, 0xDEADBEEF, 0xFFFFFFFF} {
		for c := range 256 {
			want := uint32(0)
			for i := range 32 {
				if (s^uint32(c))>>i&1 == 1 {
					want ^= sum.Turn(1<<i, 0)
				}
			}
			if got := sum.Turn(s, byte(c)); got != want {
				t.Errorf("Turn(%#x, %#x) = %#x, want %#x", s, c, got, want)
			}
		}
	}
}

// 1.1: More is Turn for each byte, in their order.
func TestMore(t *testing.T) {
	for _, s := range []uint32{0, 7, 0x80000000, 0xFFFFFFFF} {
		if sum.More(s, nil) != s || sum.More(s, []byte{}) != s {
			t.Errorf("More(%#x, nothing) is another sum", s)
		}
		b := upTo(300)
		want := s
		for i, c := range b {
			want = sum.Turn(want, c)
			if got := sum.More(s, b[:i+1]); got != want {
				t.Fatalf("More(%#x, %d bytes) = %#x, want %#x", s, i+1, got, want)
			}
			if got := sum.More(sum.More(s, b[:i]), b[i:]); got != sum.More(s, b) {
				t.Fatalf("More(%#x), parted at %d, = %#x", s, i, got)
			}
		}
	}
	if got := sum.More(7, []byte("ab")); got != 0xEA1AC2CF {
		t.Errorf("More(7, ab) = %#x", got)
	}
	if got := sum.More(0, make([]byte, 5)); got != 0 {
		t.Errorf("More(0, five zeros) = %#x", got)
	}
}

// 1.1: Of, held against the remainders of a division done apart from the program.
func TestOf(t *testing.T) {
	for _, x := range []struct {
		b    []byte
		want uint32
	}{
		{nil, 0},
		{[]byte{}, 0},
		{[]byte{0}, 0x2BAF2F85},
		{[]byte{0, 0}, 0x5B6E078E},
		{[]byte{0xFF}, 0xFF000000},
		{[]byte{0xFF, 0xFF, 0xFF, 0xFF}, 0xFFFFFFFF},
		{[]byte("a"), 0x3903FFE5},
		{[]byte("123456789"), 0xB615D65A},
		{make([]byte, 24), 0xB8B7F29C},
		{upTo(256), 0x04DEE46A},
	} {
		if got := sum.Of(x.b); got != x.want {
			t.Errorf("Of(%v) = %#x, want %#x", x.b, got, x.want)
		}
		if got := ^sum.More(0xFFFFFFFF, x.b); got != x.want {
			t.Errorf("More on %v, turned, = %#x, want %#x", x.b, got, x.want)
		}
	}
}

// 1.2: every other byte at every place of a text gives a sum of its own.
func TestOneByteAlone(t *testing.T) {
	for _, b := range [][]byte{{0}, {0xFF}, []byte("sixteen bytes !!"), make([]byte, 24), bytes.Repeat([]byte{0xFF}, 24), upTo(256)} {
		for i, was := range b {
			seen := map[uint32]int{}
			for c := range 256 {
				b[i] = byte(c)
				s := sum.Of(b)
				if d, ok := seen[s]; ok {
					t.Fatalf("bytes %#x and %#x at %d of %d: both %#x", d, c, i, len(b), s)
				}
				seen[s] = c
			}
			b[i] = was
		}
	}
}

// 1.2, at all lengths: bytes unlike give sums unlike, and sums unlike stay unlike, whatever byte follows.
func TestNoTwoTurnIntoOne(t *testing.T) {
	var rows [32]uint32 // Turn's answers to single bits, reduced: row i begins at bit i
	for i := range 32 {
		v := sum.Turn(1<<i, 0)
		for k := 31; k >= 0 && v != 0; k-- {
			if v>>k&1 == 0 {
				continue
			}
			if rows[k] == 0 {
				rows[k] = v
				break
			}
			v ^= rows[k]
		}
	}
	for k, v := range rows {
		if v == 0 {
			t.Errorf("no sum turns into one whose highest bit is %d: others fall together", k)
		}
	}
}

// Rules 2 and 3: what is handed in stays, and the same gives the same.
func TestNothingIsChanged(t *testing.T) {
	b := upTo(64)
	first, more := sum.Of(b), sum.More(5, b)
	if !bytes.Equal(b, upTo(64)) {
		t.Error("the text has changed")
	}
	if sum.Of(b) != first || sum.More(5, b) != more {
		t.Error("the same text has another sum")
	}
}
