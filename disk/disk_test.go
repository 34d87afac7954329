package disk_test

import (
	"bytes"
	"math"
	"slices"
	"testing"

	"lavabo/api"
	"lavabo/disk"
	"lavabo/page"
)

// image is an image whose bytes are unlike one another, and unlike those of another c that is near.
func image(c int) []byte {
	b := make([]byte, api.Image)
	for i := range b {
		b[i] = byte(c*31 + i*7 + 1)
	}
	return b
}

// torn is what stands there when the write of an image broke at byte 12.
func torn(head, tail []byte) []byte { return append(bytes.Clone(head[:12]), tail[12:]...) }

// made is a device of that many pages on which each has its image, durable.
func made(t *testing.T, pages int) *disk.Disk {
	t.Helper()
	d := disk.New(pages)
	for p := range pages {
		writes(t, d, p, image(p), api.OK)
	}
	syncs(t, d, api.OK)
	return d
}

func reads(t *testing.T, d *disk.Disk, p int, want []byte, code int) {
	t.Helper()
	if b, c := d.Read(p); c != code || !bytes.Equal(b, want) {
		t.Fatalf("Read(%d) = %x, %d, want %x, %d", p, b, c, want, code)
	}
}

func writes(t *testing.T, d *disk.Disk, p int, b []byte, code int) {
	t.Helper()
	if c := d.Write(p, b); c != code {
		t.Fatalf("Write(%d, %x) = %d, want %d", p, b, c, code)
	}
}

func syncs(t *testing.T, d *disk.Disk, code int) {
	t.Helper()
	if c := d.Sync(); c != code {
		t.Fatalf("Sync() = %d, want %d", c, code)
	}
}

func fails(t *testing.T, d *disk.Disk, n int, want bool) {
	t.Helper()
	if d.Fail(n) != want {
		t.Fatalf("Fail(%d) is not %v", n, want)
	}
}

func crashes(t *testing.T, d *disk.Disk, want bool, bits ...byte) {
	t.Helper()
	if d.Crash(bits) != want {
		t.Fatalf("Crash(%b) is not %v", bits, want)
	}
}

// stands asks what is durable.
func stands(t *testing.T, d *disk.Disk, want ...[]byte) {
	t.Helper()
	if l := d.Durable(); !slices.EqualFunc(l, want, bytes.Equal) {
		t.Fatalf("Durable() = %x, want %x", l, want)
	}
}

func waits(t *testing.T, d *disk.Disk, want ...int) {
	t.Helper()
	if l := d.Waits(); !slices.Equal(l, want) {
		t.Fatalf("Waits() = %v, want %v", l, want)
	}
}

func counts(t *testing.T, d *disk.Disk, want int) {
	t.Helper()
	if n := d.Accesses(); n != want {
		t.Fatalf("Accesses() = %d, want %d", n, want)
	}
}

// 3.1: New takes 1 to 48 pages; all are blank, nothing waits.
func TestNew(t *testing.T) {
	for _, n := range []int{0, -1, 49, 50, 304, math.MaxInt, math.MinInt} {
		if disk.New(n) != nil {
			t.Errorf("New(%d) is a device", n)
		}
	}
	for n := 1; n <= 48; n++ {
		d := disk.New(n)
		if d == nil {
			t.Fatalf("New(%d) is none", n)
		}
		counts(t, d, 0)
		waits(t, d)
		stands(t, d, slices.Repeat([][]byte{page.Blank()}, n)...)
		for p := range n {
			reads(t, d, p, page.Blank(), api.OK)
		}
		reads(t, d, n, nil, api.ErrArg)
		counts(t, d, n)
	}
}

// 3.1: what was written last is read; it waits, and is durable behind a Sync alone.
func TestWriteAndSync(t *testing.T) {
	d := disk.New(4)
	zero := page.Blank()
	for i, p := range []int{3, 0, 3, 1} {
		writes(t, d, p, image(i), api.OK)
		reads(t, d, p, image(i), api.OK)
	}
	stands(t, d, zero, zero, zero, zero)
	waits(t, d, 0, 1, 3)
	reads(t, d, 2, zero, api.OK)
	syncs(t, d, api.OK)
	waits(t, d)
	stands(t, d, image(1), image(3), zero, image(2))
	writes(t, d, 0, image(9), api.OK)
	writes(t, d, 1, image(3), api.OK) // what stands there waits, too, when it is written again
	waits(t, d, 0, 1)
	stands(t, d, image(1), image(3), zero, image(2))
	reads(t, d, 0, image(9), api.OK)
	reads(t, d, 3, image(2), api.OK)
	writes(t, d, 3, zero, api.OK) // zeros are an image
	reads(t, d, 3, zero, api.OK)
	waits(t, d, 0, 1, 3)
	syncs(t, d, api.OK)
	syncs(t, d, api.OK) // nothing waits: it is an access all the same
	stands(t, d, image(9), image(3), zero, zero)
	counts(t, d, 18)
}

// 3.1: of all pages of all sizes of device, each has an image of its own.
func TestAllPages(t *testing.T) {
	for n := 1; n <= api.MaxPages; n++ {
		d := made(t, n)
		for p := range n {
			reads(t, d, p, image(p), api.OK)
		}
		counts(t, d, 2*n+1)
	}
}

// 3.1: no such page, no such length: ErrArg, ahead of all else, and no access.
func TestErrArg(t *testing.T) {
	d := made(t, 3)
	writes(t, d, 1, image(7), api.OK)
	refuse := func() {
		t.Helper()
		for _, p := range []int{-1, -2, 3, 4, 47, 48, 256, math.MaxInt, math.MinInt} {
			reads(t, d, p, nil, api.ErrArg)
			writes(t, d, p, image(8), api.ErrArg)
			writes(t, d, p, nil, api.ErrArg)
		}
		for n := range 64 {
			if n != 24 {
				writes(t, d, 1, make([]byte, n, 64), api.ErrArg)
			}
		}
		writes(t, d, 1, nil, api.ErrArg)
	}
	fails(t, d, 1, true)
	refuse()
	counts(t, d, 5)
	waits(t, d, 1)
	stands(t, d, image(0), image(1), image(2))
	reads(t, d, 1, nil, api.ErrIO) // the word still stands
	reads(t, d, 1, image(7), api.OK)
	crashes(t, d, true, 1)
	refuse()
	counts(t, d, 7)
	stands(t, d, image(0), image(7), image(2))
}

// 3.1: the access that was said to fail fails, that one alone, whatever it is; nothing is changed, and it counts.
func TestFail(t *testing.T) {
	for n := 1; n <= 7; n++ {
		for kind := range 3 {
			d := made(t, 2)
			writes(t, d, 1, image(5), api.OK)
			from := d.Accesses()
			fails(t, d, n, true)
			for i := 1; i < n; i++ {
				reads(t, d, i%2, [][]byte{image(0), image(5)}[i%2], api.OK)
			}
			switch kind {
			case 0:
				reads(t, d, 1, nil, api.ErrIO)
			case 1:
				writes(t, d, 1, image(6), api.ErrIO)
				writes(t, d, 0, image(6), api.OK)
			case 2:
				syncs(t, d, api.ErrIO)
			}
			counts(t, d, from+n+kind%2) // one more where a second write was
			stands(t, d, image(0), image(1))
			if kind != 1 {
				waits(t, d, 1)
			}
			reads(t, d, 1, image(5), api.OK)
			for range 2 * n {
				syncs(t, d, api.OK)
			}
		}
	}
}

// 3.1: a write that fails makes no page wait.
func TestWriteThatFails(t *testing.T) {
	d := made(t, 2)
	fails(t, d, 1, true)
	writes(t, d, 0, image(9), api.ErrIO)
	waits(t, d)
	reads(t, d, 0, image(0), api.OK)
	crashes(t, d, true, 0xFF)
	stands(t, d, image(0), image(1))
}

// 3.1: an elder word is forgotten, be the younger one nearer, farther, or 0; a word that is refused is none.
func TestFailAgain(t *testing.T) {
	for _, words := range [][]int{{5, 2}, {1, 2}, {2, 2}, {1, 0, 2}, {1000000, 2}, {2, -1}, {2, 1000001}, {2, math.MinInt}, {2, math.MaxInt}, {0, 2, -7}} {
		d := made(t, 1)
		for _, n := range words {
			fails(t, d, n, n >= 0 && n <= 1000000)
		}
		counts(t, d, 2)
		for i := 1; i <= 8; i++ {
			if i == 2 {
				syncs(t, d, api.ErrIO)
			} else {
				syncs(t, d, api.OK)
			}
		}
	}
	d := made(t, 1)
	fails(t, d, 3, true)
	syncs(t, d, api.OK)
	syncs(t, d, api.OK)
	fails(t, d, 2, true) // from now on, not from the elder word on
	syncs(t, d, api.OK)
	syncs(t, d, api.ErrIO)
	fails(t, d, 1, true)
	fails(t, d, 0, true)
	for range 8 {
		syncs(t, d, api.OK)
	}
}

// 3.1: the farthest word.
func TestFailFar(t *testing.T) {
	d := made(t, 1)
	fails(t, d, 1000000, true)
	for range 999999 {
		if d.Sync() != api.OK {
			t.Fatalf("access %d fails", d.Accesses())
		}
	}
	syncs(t, d, api.ErrIO)
	syncs(t, d, api.OK)
	counts(t, d, 1000003)
}

// left is what a crash leaves of a page, told from 3.2's words.
func left(was, now []byte, bits byte) []byte {
	return [][]byte{was, now, torn(now, was), torn(was, now)}[bits]
}

// 3.2: all pairs of bits, of one page to five: the lowest ones of a byte first, the next byte behind four pages.
func TestCrash(t *testing.T) {
	for pages := 1; pages <= 5; pages++ {
		for all := range 1 << (2 * pages) {
			d := made(t, pages)
			var want [][]byte
			for p := range pages {
				writes(t, d, p, image(50+p), api.OK)
				want = append(want, left(image(p), image(50+p), byte(all>>(2*p)&3)))
			}
			crashes(t, d, true, byte(all), byte(all>>8))
			stands(t, d, want...)
			waits(t, d)
		}
	}
}

// 3.2: bits are of those alone that wait, by numbers, not in the order of their writes.
func TestCrashTakesBitsOfWhatWaits(t *testing.T) {
	for set := range 1 << 6 {
		d := made(t, 6)
		want := d.Durable()
		bits, turn := []byte{0b10_01_11_00, 0b00_10}, 0
		for p := range 6 {
			if set>>p&1 == 1 {
				want[p] = left(image(p), image(60+p), bits[turn/4]>>(turn%4*2)&3)
				turn++
			}
		}
		for p := 5; p >= 0; p-- {
			if set>>p&1 == 1 {
				writes(t, d, p, image(60+p), api.OK)
			}
		}
		crashes(t, d, true, bits...)
		stands(t, d, want...)
	}
}

// 3.2: behind the end of the bits all is lost; bits that nobody takes are passed over.
func TestCrashBitsEnd(t *testing.T) {
	for _, pages := range []int{1, 4, 5, 8, 9, 47, 48} {
		for n := range 14 {
			d := made(t, pages)
			want := d.Durable()
			for p := range pages {
				writes(t, d, p, image(100+p), api.OK)
				if p < 4*n {
					want[p] = image(100 + p)
				}
			}
			crashes(t, d, true, bytes.Repeat([]byte{0b01010101}, n)...)
			stands(t, d, want...)
		}
	}
	d := disk.New(2)
	crashes(t, d, true, 0xFF, 0xFF)
	stands(t, d, page.Blank(), page.Blank())
}

// 3.2: what was written last ahead of the crash is new, what was durable is old; what lay between is gone.
func TestCrashOfPageWrittenTwice(t *testing.T) {
	for bits := range byte(4) {
		d := made(t, 1)
		writes(t, d, 0, image(10), api.OK)
		writes(t, d, 0, image(11), api.OK)
		crashes(t, d, true, bits)
		stands(t, d, left(image(0), image(11), bits))

		d = disk.New(1)
		writes(t, d, 0, image(12), api.OK)
		crashes(t, d, true, bits)
		stands(t, d, left(page.Blank(), image(12), bits))
	}
}

// 3.2: a crash is no access; behind it the device takes none, and no second one.
func TestBehindTheCrash(t *testing.T) {
	d := made(t, 3)
	writes(t, d, 1, image(20), api.OK)
	fails(t, d, 1, true)
	crashes(t, d, true, 2)
	for range 3 {
		counts(t, d, 5)
		waits(t, d)
		stands(t, d, image(0), torn(image(20), image(1)), image(2))
		reads(t, d, 0, nil, api.ErrState)
		writes(t, d, 0, image(21), api.ErrState)
		syncs(t, d, api.ErrState)
		crashes(t, d, false, 1)
		crashes(t, d, false)
		fails(t, d, 1, true) // nothing but its number is asked of a word
		fails(t, d, -1, false)
		fails(t, d, 1000001, false)
	}
}

// 3.1, 3.2: of nil: ErrState alone, false, nothing, 0; a device without pages, made without New, panics nowhere.
func TestNoDevice(t *testing.T) {
	var d *disk.Disk
	for _, p := range []int{0, -1, 48} {
		reads(t, d, p, nil, api.ErrState)
		writes(t, d, p, image(0), api.ErrState)
		writes(t, d, p, nil, api.ErrState)
	}
	syncs(t, d, api.ErrState)
	fails(t, d, 0, false)
	fails(t, d, 1, false)
	crashes(t, d, false, 1)
	counts(t, d, 0)
	waits(t, d)
	stands(t, d)

	d = &disk.Disk{}
	reads(t, d, 0, nil, api.ErrArg)
	writes(t, d, 0, image(0), api.ErrArg)
	syncs(t, d, api.OK)
	fails(t, d, 1, true)
	crashes(t, d, true, 1)
	counts(t, d, 1)
	waits(t, d)
	stands(t, d)
}

// Rule 2: what is handed in stays and is not kept; what is answered is the caller's own.
func TestNothingIsShared(t *testing.T) {
	d := made(t, 2)
	spoil := func(b []byte) {
		b[0], b[23] = b[0]+1, b[23]+1
		_ = append(b, 1, 2, 3)
	}
	b := append(image(30), 0xEE)[:24]
	writes(t, d, 0, b, api.OK)
	if !bytes.Equal(b[:25], append(image(30), 0xEE)) {
		t.Fatal("Write has changed the image")
	}
	spoil(b)
	for range 2 {
		reads(t, d, 0, image(30), api.OK)
		b, _ = d.Read(0)
		spoil(b)
		reads(t, d, 1, image(1), api.OK)
		b, _ = d.Read(1)
		spoil(b)
		l := d.Durable()
		spoil(l[0])
		spoil(l[1])
		l[0] = nil
		d.Waits()[0] = 9
		waits(t, d, 0)
		stands(t, d, image(0), image(1))
	}
	bits := []byte{1}
	crashes(t, d, true, bits...)
	if bits[0] != 1 {
		t.Fatal("Crash has changed the bits")
	}
	l := d.Durable()
	spoil(l[0])
	stands(t, d, image(30), image(1))
	new0, new1 := disk.New(2), disk.New(2)
	writes(t, new0, 0, image(1), api.OK)
	syncs(t, new0, api.OK)
	stands(t, new1, page.Blank(), page.Blank())
}

// 3.3, T3: whenever the device crashes, each page is as its last Sync left it, or later; what is torn is told.
func TestWhatWasSyncedIsThere(t *testing.T) {
	const pages = 5
	seal := func(p, version int) []byte {
		b, code := page.Seal(p, bytes.Repeat([]byte{byte(version)}, api.Size))
		if code != api.OK {
			t.Fatal(code)
		}
		return b
	}
	for crashAt := range 60 {
		for bits := range 256 {
			d := disk.New(pages)
			var synced, last [pages]int // versions; 0: never written
			for i := range crashAt {
				if i%7 == 6 {
					syncs(t, d, api.OK)
					synced = last
					continue
				}
				p := i * i % pages
				last[p] = i + 1
				writes(t, d, p, seal(p, i+1), api.OK)
			}
			crashes(t, d, true, byte(bits), byte(bits*5+crashAt))
			for p, b := range d.Durable() {
				body, code := page.Open(p, b)
				switch {
				case code == api.ErrBlank && synced[p] == 0:
				case code == api.ErrCorrupt && synced[p] != last[p]:
				case code == api.OK && (int(body[0]) == synced[p] || int(body[0]) == last[p]) && len(bytes.Trim(body, string(body[:1]))) == 0:
				default:
					t.Fatalf("page %d is %x (%d) behind a crash at %d; synced %d, written %d", p, body, code, crashAt, synced[p], last[p])
				}
			}
		}
	}
}

// plain is a device told in the plainest way: the words that count, gone through anew at each question.
type plain struct {
	pages    int
	log      []put // writes since the last Sync
	durable  map[int][]byte
	accesses int
	failAt   int // its number among all accesses
	down     bool
}

type put struct {
	page  int
	image []byte
}

func (d *plain) newest(p int) ([]byte, bool) {
	for _, x := range slices.Backward(d.log) {
		if x.page == p {
			return x.image, true
		}
	}
	return append(bytes.Clone(d.durable[p]), page.Blank()...)[:24], false
}

func (d *plain) access(ok bool) int {
	if !ok {
		return api.ErrArg
	}
	if d.down {
		return api.ErrState
	}
	if d.accesses++; d.accesses == d.failAt {
		return api.ErrIO
	}
	return api.OK
}

func (d *plain) sync() {
	for _, x := range d.log {
		d.durable[x.page] = x.image
	}
	d.log = nil
}

func (d *plain) waits() []int {
	var l []int
	for _, x := range d.log {
		l = append(l, x.page)
	}
	slices.Sort(l)
	return slices.Compact(l)
}

func (d *plain) stands() [][]byte {
	was := plain{durable: d.durable}
	var l [][]byte
	for p := range d.pages {
		b, _ := was.newest(p)
		l = append(l, b)
	}
	return l
}

func (d *plain) crash(bits []byte) bool {
	if d.down {
		return false
	}
	var pairs []byte
	for _, c := range bits {
		pairs = append(pairs, c&3, c>>2&3, c>>4&3, c>>6)
	}
	old := d.stands()
	for i, p := range d.waits() {
		if now, _ := d.newest(p); i < len(pairs) {
			d.durable[p] = left(old[p], now, pairs[i])
		}
	}
	d.log, d.down = nil, true
	return true
}

// 3.1, 3.2: held against the plain one through many lives of a device.
func TestAgainstPlain(t *testing.T) {
	x := uint32(7)
	next := func(n int) int {
		x = x*1664525 + 1013904223
		return int(x>>8) % n
	}
	for range 3000 {
		pages := 1 + next(8)
		d, e := disk.New(pages), &plain{pages: pages, durable: map[int][]byte{}}
		for range next(60) {
			p, b := next(pages+2)-1, image(next(200))[:24-next(20)/19]
			there := p >= 0 && p < pages
			switch next(8) {
			case 0, 1:
				var want []byte
				code := e.access(there)
				if code == api.OK {
					want, _ = e.newest(p)
				}
				reads(t, d, p, want, code)
			case 2, 3, 4:
				code := e.access(there && len(b) == 24)
				if code == api.OK {
					e.log = append(e.log, put{p, b})
				}
				writes(t, d, p, b, code)
			case 5:
				code := e.access(true)
				if code == api.OK {
					e.sync()
				}
				syncs(t, d, code)
			case 6:
				n := next(6) - 1
				if n >= 0 {
					if e.failAt = e.accesses + n; n == 0 {
						e.failAt = 0
					}
				}
				fails(t, d, n, n >= 0)
			case 7:
				if next(6) == 0 {
					bits := []byte{byte(next(256)), byte(next(256))}[:next(3)]
					crashes(t, d, e.crash(bits), bits...)
				}
			}
			counts(t, d, e.accesses)
			waits(t, d, e.waits()...)
			stands(t, d, e.stands()...)
		}
	}
}
