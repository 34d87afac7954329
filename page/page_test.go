package page_test

import (
	"bytes"
	"encoding/hex"
	"math"
	"testing"

	"lavabo/api"
	"lavabo/page"
	"lavabo/sum"
)

// noPages is numbers of no page.
var noPages = []int{-1, -2, api.MaxPages, api.MaxPages + 1, 255, 256, 65535, 65536, math.MaxInt, math.MinInt}

// bodies is some bodies, unlike one another.
func bodies() [][]byte {
	l := [][]byte{
		make([]byte, api.Size),
		bytes.Repeat([]byte{0xFF}, api.Size),
		[]byte("sixteen bytes !!"),
		append([]byte{1}, make([]byte, api.Size-1)...),
		append(make([]byte, api.Size-1), 1),
	}
	x := uint32(1)
	for range 20 {
		b := make([]byte, api.Size)
		for i := range b {
			x = x*1664525 + 1013904223
			b[i] = byte(x >> 24)
		}
		l = append(l, b)
	}
	return l
}

// seal is Seal's image where there must be one.
func seal(t *testing.T, id int, body []byte) []byte {
	t.Helper()
	b, code := page.Seal(id, body)
	if code != api.OK {
		t.Fatalf("Seal(%d, %x): code %d", id, body, code)
	}
	return b
}

// opens asks that Open tells that code, and that body.
func opens(t *testing.T, id int, b []byte, code int, body []byte) {
	t.Helper()
	got, c := page.Open(id, b)
	if c != code || !bytes.Equal(got, body) {
		t.Fatalf("Open(%d, %x) = %x, %d, want %x, %d", id, b, got, c, body, code)
	}
}

// resum puts the right sum ahead of what stands behind it.
func resum(b []byte) []byte {
	s := sum.Of(b[4:])
	return append([]byte{byte(s), byte(s >> 8), byte(s >> 16), byte(s >> 24)}, b[4:]...)
}

// 2.1: Seal, held against images made apart from the program.
func TestSealImages(t *testing.T) {
	for _, x := range []struct {
		id         int
		body, want string
	}{
		{0, "00000000000000000000000000000000", "dc6c857501005aa500000000000000000000000000000000"},
		{47, "00000000000000000000000000000000", "d98d074c30005aa500000000000000000000000000000000"},
		{0, "ffffffffffffffffffffffffffffffff", "5959685b01005aa5ffffffffffffffffffffffffffffffff"},
		{5, "000102030405060708090a0b0c0d0e0f", "bf49b0e806005aa5000102030405060708090a0b0c0d0e0f"},
		{46, "7369787465656e206279746573202121", "0812b0142f005aa57369787465656e206279746573202121"},
	} {
		body, err := hex.DecodeString(x.body)
		if err != nil {
			t.Fatal(err)
		}
		if got := hex.EncodeToString(seal(t, x.id, body)); got != x.want {
			t.Errorf("Seal(%d, %s) = %s, want %s", x.id, x.body, got, x.want)
		}
	}
}

// 2.1: what stands where, of all pages; Open tells the body, and no other page has it.
func TestSealAndOpen(t *testing.T) {
	for id := range api.MaxPages {
		for _, body := range bodies() {
			b := seal(t, id, body)
			want := resum(append([]byte{0, 0, 0, 0, byte(id + 1), 0, 0x5A, 0xA5}, body...))
			if !bytes.Equal(b, want) {
				t.Fatalf("Seal(%d, %x) = %x, want %x", id, body, b, want)
			}
			opens(t, id, b, api.OK, body)
			for other := range api.MaxPages {
				if other != id {
					opens(t, other, b, api.ErrCorrupt, nil)
				}
			}
		}
	}
}

// 2.1: Seal takes no other numbers, no other lengths.
func TestSealErrArg(t *testing.T) {
	refused := func(id int, body []byte) {
		t.Helper()
		if b, code := page.Seal(id, body); code != api.ErrArg || len(b) != 0 {
			t.Errorf("Seal(%d, %d bytes) = %x, %d, want ErrArg", id, len(body), b, code)
		}
	}
	for _, id := range noPages {
		refused(id, make([]byte, api.Size))
		refused(id, nil)
	}
	for n := range 66 {
		if n != api.Size {
			refused(0, make([]byte, n))
			refused(47, make([]byte, n, 80))
		}
	}
	refused(0, nil)
}

// 2.1: Open takes no other numbers, no other lengths; that is told ahead of what stands there.
func TestOpenErrArg(t *testing.T) {
	sealed := seal(t, 0, []byte("sixteen bytes !!"))
	for _, id := range noPages {
		opens(t, id, sealed, api.ErrArg, nil)
		opens(t, id, page.Blank(), api.ErrArg, nil)
		opens(t, id, bytes.Repeat([]byte{7}, api.Image), api.ErrArg, nil)
		opens(t, id, nil, api.ErrArg, nil)
	}
	long := append(bytes.Clone(sealed), make([]byte, 60)...)
	for n := range len(long) {
		if n != api.Image {
			opens(t, 0, long[:n], api.ErrArg, nil)
			opens(t, 0, make([]byte, n), api.ErrArg, nil)
		}
	}
	opens(t, 0, nil, api.ErrArg, nil)
}

// 2.1: Blank is 24 zeros, ErrBlank of every page; a body of zeros is none.
func TestBlank(t *testing.T) {
	if !bytes.Equal(page.Blank(), make([]byte, 24)) {
		t.Fatalf("Blank() = %x", page.Blank())
	}
	for id := range api.MaxPages {
		opens(t, id, page.Blank(), api.ErrBlank, nil)
		opens(t, id, seal(t, id, make([]byte, api.Size)), api.OK, make([]byte, api.Size))
	}
}

// 2.1: one byte alone that is another one is told, in a page and in a blank one.
func TestOneByteAlone(t *testing.T) {
	for _, id := range []int{0, 1, 22, 46, 47} {
		for _, body := range bodies()[:6] {
			b := seal(t, id, body)
			for i, was := range b {
				for c := range 256 {
					if b[i] = byte(c); b[i] != was {
						opens(t, id, b, api.ErrCorrupt, nil)
					}
				}
				b[i] = was
			}
		}
		b := page.Blank()
		for i := range b {
			for c := 1; c < 256; c++ {
				b[i] = byte(c)
				opens(t, id, b, api.ErrCorrupt, nil)
			}
			b[i] = 0
		}
	}
}

// 2.1: a right sum alone makes no page: its number and its sign are asked, too.
func TestRightSumAlone(t *testing.T) {
	for _, id := range []int{0, 4, 47} {
		b := seal(t, id, []byte("sixteen bytes !!"))
		opens(t, id, resum(b), api.OK, b[8:])
		for i := 4; i < 8; i++ {
			was := b[i]
			for c := range 256 {
				if b[i] = byte(c); b[i] != was {
					opens(t, id, resum(b), api.ErrCorrupt, nil)
				}
			}
			b[i] = was
		}
		for _, i := range []int{4, 6} {
			b[i], b[i+1] = b[i+1], b[i]
			opens(t, id, resum(b), api.ErrCorrupt, nil)
			b[i], b[i+1] = b[i+1], b[i]
		}
		b[0], b[1], b[2], b[3] = b[3], b[2], b[1], b[0]
		opens(t, id, b, api.ErrCorrupt, nil)
		opens(t, id, resum(page.Blank()), api.ErrCorrupt, nil)
	}
}

// tear asks that what an image is when was's write of now broke at a place is was, now, or told.
func tear(t *testing.T, id int, was, now []byte, at int) {
	t.Helper()
	for _, b := range [][]byte{
		append(bytes.Clone(now[:at]), was[at:]...),
		append(bytes.Clone(was[:at]), now[at:]...),
	} {
		switch {
		case bytes.Equal(b, page.Blank()):
			opens(t, id, b, api.ErrBlank, nil)
		case bytes.Equal(b, was) || bytes.Equal(b, now):
			opens(t, id, b, api.OK, b[8:])
		default:
			opens(t, id, b, api.ErrCorrupt, nil)
		}
	}
}

// 2.2: of two images of a page, or of one and a blank one, no half of each passes for a page, wherever they part.
func TestTorn(t *testing.T) {
	for _, id := range []int{0, 1, 23, 47} {
		images := [][]byte{page.Blank()}
		for _, body := range bodies() {
			images = append(images, seal(t, id, body))
		}
		for _, was := range images {
			for _, now := range images {
				for at := range api.Image + 1 {
					tear(t, id, was, now, at)
				}
			}
		}
	}
}

// 2.2: where the device tears (at 12 bytes, 3.2), one byte on either side that is another one is enough.
func TestTornByOneByte(t *testing.T) {
	was := seal(t, 9, []byte("sixteen bytes !!"))
	for first := range 4 {
		for last := 4; last < api.Size; last++ {
			for c := 1; c < 256; c++ {
				body := []byte("sixteen bytes !!")
				body[first] ^= byte(c)
				tear(t, 9, was, seal(t, 9, body), 12) // the sum and its body part
				body[last] ^= byte(c)
				tear(t, 9, was, seal(t, 9, body), 12)
			}
		}
	}
}

// 2.2 goes as far as a sum of 32 bits does: where both halves have the same sum by chance (chapter 22 counts on it), 2.1's words hold, and what Seal makes is a page.
func TestTornByChance(t *testing.T) {
	now := []byte("sixteen bytes !!")
	was := bytes.Clone(now)
	was[0] ^= 0xFF
	for i, c := range []byte{0x01, 0xA5, 0xC6, 0x59, 0x3A} { // a byte, and what Turn(0, 1) makes of it: together they leave the sum as it is
		was[6+i] ^= c
	}
	torn := append(bytes.Clone(seal(t, 9, now)[:12]), seal(t, 9, was)[12:]...)
	if bytes.Equal(torn[8:], was) || bytes.Equal(torn[8:], now) || !bytes.Equal(torn, seal(t, 9, torn[8:])) {
		t.Fatal("the two halves are no page together")
	}
	opens(t, 9, torn, api.OK, torn[8:])
}

// 2.2: a page that stands where another one's is is told, torn or whole.
func TestAnothersPage(t *testing.T) {
	body := []byte("sixteen bytes !!")
	mine, others := seal(t, 3, body), seal(t, 4, body)
	for at := 1; at <= api.Image; at++ {
		b := append(bytes.Clone(others[:at]), mine[at:]...)
		opens(t, 3, b, api.ErrCorrupt, nil)
	}
}

// Rules 2 and 3: what is handed in stays, what is answered is the caller's own, the same gives the same.
func TestNothingIsShared(t *testing.T) {
	body := []byte("sixteen bytes !!")
	b := seal(t, 2, body)
	want := bytes.Clone(b)
	if string(body) != "sixteen bytes !!" {
		t.Fatal("Seal has changed the body")
	}
	body[0] = 'S'
	if !bytes.Equal(b, want) {
		t.Fatal("the image has the body's memory")
	}
	got, _ := page.Open(2, b)
	if !bytes.Equal(b, want) {
		t.Fatal("Open has changed the image")
	}
	got[0] = 'S'
	got = append(got, 1, 2, 3)
	if got[0] = 'T'; !bytes.Equal(b, want) {
		t.Fatal("what Open tells has the image's memory")
	}
	page.Blank()[5] = 1
	if !bytes.Equal(page.Blank(), make([]byte, 24)) {
		t.Fatal("blank images share their memory")
	}
	opens(t, 2, b, api.OK, []byte("sixteen bytes !!"))
	if !bytes.Equal(seal(t, 2, []byte("sixteen bytes !!")), want) {
		t.Fatal("the same body has another image")
	}
}
