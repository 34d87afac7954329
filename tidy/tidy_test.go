package tidy_test

import (
	"bytes"
	"math"
	"math/big"
	"math/rand"
	"slices"
	"testing"

	"lavabo/api"
	"lavabo/core"
	"lavabo/disk"
	"lavabo/page"
	"lavabo/tidy"
)

// Frames of all kinds that differ to tidy.
var (
	dirty   = api.Frame{State: api.FUsed, Dirty: true}
	clean   = api.Frame{State: api.FUsed}
	pinned  = api.Frame{State: api.FUsed, Dirty: true, Pins: 1}
	held    = api.Frame{State: api.FUsed, Pins: 1}
	free    = api.Frame{Page: -1}
	busy    = api.Frame{State: api.FBusy, Dirty: true}
	moving  = api.Frame{State: api.FMoving, Dirty: true}
	retired = api.Frame{State: api.FRetired, Dirty: true, Page: -1}
	kinds   = []api.Frame{dirty, clean, pinned, held, free, busy, moving, retired}
)

// edges are numbers next to the ends of int, and where a narrower kind of number would wrap round.
var edges = []int{math.MinInt, math.MinInt + 1, math.MinInt + 2, math.MinInt + 31, -1<<32 - 1, -1 << 32, -1<<32 + 1, math.MinInt32, -1 << 16, -257, -256, -255, -129, -128, -64, -33, -32, -31, -3, -2, -1, 0, 1, 2, 3, 31, 32, 33, 63, 64, 127, 128, 129, 255, 256, 257, 1 << 16, math.MaxInt32, 1 << 31, 1<<32 - 1, 1 << 32, 1<<32 + 1, 1<<32 + 5, 1 << 62, math.MaxInt - 31, math.MaxInt - 1, math.MaxInt}

// states are all states of a frame, and some that are none.
var states = []int{api.FFree, api.FUsed, api.FBusy, api.FMoving, api.FRetired, -1, 5, 6, 255, 256, 257, 1 << 32, 1<<32 + 1, -1<<32 + 1, math.MaxInt, math.MinInt, math.MinInt + 1}

// places are places written short.
func places(l ...int) []int { return l }

// pick asks Pick, twice, and holds what it answers against want; what was handed in stays, what is answered is the caller's own.
func pick(t *testing.T, l []api.Frame, from, most int, want []int) {
	t.Helper()
	was := slices.Clone(l)
	for range 2 {
		got := tidy.Pick(l, from, most)
		if !slices.Equal(got, want) {
			t.Fatalf("Pick(%v, %d, %d) = %v, want %v", was, from, most, got, want)
		}
		if !slices.Equal(l, was) {
			t.Fatalf("Pick(%v, %d, %d) changed them: %v", was, from, most, l)
		}
		for i := range got {
			got[i] = -7
		}
	}
}

// due asks Due likewise.
func due(t *testing.T, l []api.Frame, want bool) {
	t.Helper()
	was := slices.Clone(l)
	for range 2 {
		if got := tidy.Due(l); got != want {
			t.Fatalf("Due(%v) = %v, want %v", was, got, want)
		}
		if !slices.Equal(l, was) {
			t.Fatalf("Due(%v) changed them: %v", was, l)
		}
	}
}

// plainPick is Pick told anew from 21.1's words: all that may go, those from the place from on ahead of those before it, the first most of them.
func plainPick(l []api.Frame, from, most int) []int {
	if len(l) == 0 {
		return nil
	}
	start := int(new(big.Int).Mod(big.NewInt(int64(from)), big.NewInt(int64(len(l)))).Int64())
	var before, behind []int
	for i, f := range l {
		may := f.State == 1 && f.Dirty && f.Pins == 0
		if may && i < start {
			before = append(before, i)
		} else if may {
			behind = append(behind, i)
		}
	}
	all := append(behind, before...)
	return all[:min(len(all), max(most, 0))]
}

// plainDue is Due told anew.
func plainDue(l []api.Frame) bool {
	sum, those := 0.0, 0
	for _, f := range l {
		if f.State == 1 {
			sum++
			if f.Dirty {
				those++
			}
		}
	}
	return those > 0 && float64(those) >= sum/2
}

// The document's example: nothing of nothing; a nil list is an empty one.
func TestNothing(t *testing.T) {
	for _, l := range [][]api.Frame{nil, {}} {
		for _, from := range edges {
			for _, most := range edges {
				pick(t, l, from, most, nil)
			}
		}
		due(t, l, false)
	}
}

// 21.1: Pick by hand.
func TestPick(t *testing.T) {
	l := []api.Frame{dirty, clean, pinned, dirty, busy, dirty, free, retired, moving, held}
	for _, c := range []struct {
		from, most int
		want       []int
	}{
		{0, 9, places(0, 3, 5)}, {0, 3, places(0, 3, 5)}, {0, 2, places(0, 3)}, {0, 1, places(0)}, {0, 0, nil}, {0, -1, nil},
		{1, 9, places(3, 5, 0)}, {1, 1, places(3)}, {3, 1, places(3)}, {3, 2, places(3, 5)}, {4, 2, places(5, 0)}, {5, 3, places(5, 0, 3)},
		{6, 9, places(0, 3, 5)}, {9, 1, places(0)}, {10, 1, places(0)}, {11, 1, places(3)}, {14, 9, places(5, 0, 3)}, {1004, 1, places(5)},
		{-1, 1, places(0)}, {-5, 9, places(5, 0, 3)}, {-4, 9, places(0, 3, 5)}, {-10, 1, places(0)}, {-11, 2, places(0, 3)}, {-9, 2, places(3, 5)}, {-1006, 1, places(5)},
		{math.MaxInt, 1, places(0)},        // the place 7
		{math.MaxInt - 3, 1, places(5)},    // 4
		{math.MinInt, 9, places(3, 5, 0)},  // 2
		{math.MinInt + 3, 2, places(5, 0)}, // 5
		{0, math.MaxInt, places(0, 3, 5)}, {0, math.MinInt, nil},
	} {
		pick(t, l, c.from, c.most, c.want)
	}
	pick(t, l[1:3], 0, 9, nil)
	pick(t, l[6:], 3, 9, nil)
}

// 21.1: one frame, and all frames alike: each place is told once, however often the numbers go round.
func TestPickOnce(t *testing.T) {
	for n := 1; n <= 33; n++ {
		l := slices.Repeat([]api.Frame{dirty}, n)
		for from := -2 * n; from <= 2*n; from++ {
			var all []int
			for i := range n {
				all = append(all, (from+2*n+i)%n)
			}
			for most := range n + 1 {
				pick(t, l, from, most, all[:most])
			}
			for _, most := range []int{n + 1, 2*n + 1, 1 << 32, 1<<32 + 1, math.MaxInt} {
				pick(t, l, from, most, all)
			}
		}
	}
}

// 21.1: every state, with any pins, dirty or not: what may go, what counts for Due. Nothing else of a frame is asked.
func TestEachFrame(t *testing.T) {
	for _, state := range states {
		for _, pins := range edges {
			for _, p := range places(-1, 0, 47, 48, math.MaxInt, math.MinInt) {
				for _, shard := range places(0, 3, 4, -1) {
					for _, is := range []bool{false, true} {
						l := []api.Frame{{State: state, Page: p, Pins: pins, Shard: shard, Dirty: is}}
						var want []int
						if state == 1 && is && pins == 0 {
							want = places(0)
						}
						pick(t, l, 0, 1, want)
						pick(t, append(l, clean), -1, 9, want)
						due(t, l, state == 1 && is)
						due(t, append(l, clean, dirty), state != 1 || is)
						due(t, append(l, clean, dirty, clean), state == 1 && is)
					}
				}
			}
		}
	}
}

// 21.1: all lists of up to four frames of all kinds, from all places some rounds about, of all counts, beside the plain ones.
func TestAllShortLists(t *testing.T) {
	var longer func(l []api.Frame)
	longer = func(l []api.Frame) {
		for from := -2*len(l) - 1; from <= 2*len(l)+1; from++ {
			for most := -1; most <= len(l)+1; most++ {
				if got, want := tidy.Pick(l, from, most), plainPick(l, from, most); !slices.Equal(got, want) {
					t.Fatalf("Pick(%v, %d, %d) = %v, want %v", l, from, most, got, want)
				}
			}
		}
		due(t, l, plainDue(l))
		if len(l) == 4 {
			return
		}
		for _, f := range kinds {
			longer(append(slices.Clone(l), f))
		}
	}
	longer(nil)
}

// frame is a frame by chance, used half the time and more.
func frame(c *rand.Rand) api.Frame {
	f := api.Frame{State: c.Intn(6), Page: c.Intn(48), Pins: max(0, c.Intn(4)-2), Shard: c.Intn(4), Dirty: c.Intn(2) == 0}
	if c.Intn(2) == 0 {
		f.State = api.FUsed
	}
	return f
}

// 21.1: any frames, few and many, from any place and of any count, beside the plain ones.
func TestByChance(t *testing.T) {
	c := rand.New(rand.NewSource(210))
	for range 3000 {
		var l []api.Frame
		for range c.Intn(1 + c.Intn(70)) {
			l = append(l, frame(c))
		}
		for range 30 {
			from, most := c.Intn(200)-100, c.Intn(len(l)+3)
			switch c.Intn(4) {
			case 0:
				from = int(c.Uint64())
			case 1:
				from = edges[c.Intn(len(edges))]
			case 2:
				most = edges[c.Intn(len(edges))]
			}
			pick(t, l, from, most, plainPick(l, from, most))
		}
		due(t, l, plainDue(l))
	}
}

// 21.1: all edges of from and of most, beside the plain one.
func TestEdges(t *testing.T) {
	for n := 1; n <= 33; n++ {
		var l []api.Frame
		for i := range n {
			l = append(l, kinds[i*i%len(kinds)])
		}
		for _, from := range edges {
			for _, most := range edges {
				pick(t, l, from, most, plainPick(l, from, most))
			}
		}
	}
}

// 21.1: Due by hand: half of the used ones just so, one fewer, one more; pinned ones count, others do not.
func TestDue(t *testing.T) {
	for _, c := range []struct {
		l    []api.Frame
		want bool
	}{
		{[]api.Frame{dirty}, true}, {[]api.Frame{pinned}, true}, {[]api.Frame{clean}, false}, {[]api.Frame{held}, false},
		{[]api.Frame{dirty, clean}, true}, {[]api.Frame{clean, pinned}, true}, {[]api.Frame{held, pinned}, true}, {[]api.Frame{dirty, held}, true},
		{[]api.Frame{clean, dirty, clean}, false}, {[]api.Frame{clean, dirty, held}, false}, {[]api.Frame{clean, dirty, dirty}, true}, {[]api.Frame{pinned, dirty, clean}, true},
		{[]api.Frame{free}, false}, {[]api.Frame{busy}, false}, {[]api.Frame{moving}, false}, {[]api.Frame{retired}, false}, {[]api.Frame{busy, moving, retired, free}, false},
		{[]api.Frame{clean, busy}, false}, {[]api.Frame{clean, moving, moving, retired}, false}, {[]api.Frame{dirty, free, free, free, busy, moving, retired}, true},
		{[]api.Frame{dirty, clean, clean, busy, busy, moving, retired}, false}, {[]api.Frame{dirty, clean, clean, free}, false},
	} {
		due(t, c.l, c.want)
	}
	for used := range 70 {
		for those := range used + 1 {
			l := slices.Concat(slices.Repeat([]api.Frame{free, busy, retired}, used%5), slices.Repeat([]api.Frame{dirty}, those/2), slices.Repeat([]api.Frame{clean}, used-those), slices.Repeat([]api.Frame{pinned}, those-those/2), slices.Repeat([]api.Frame{free, moving}, those%3))
			due(t, l, those >= 1 && those >= (used+1)/2)
		}
	}
}

// 21.1: many more frames than there may be are gone over, too; a few are picked of them without going over all.
func TestOfMany(t *testing.T) {
	const n = 200_000
	l := slices.Repeat([]api.Frame{dirty, clean, pinned, dirty}, n)
	pick(t, l, 1, 3, places(3, 4, 7))
	pick(t, l, -1, 3, places(4*n-1, 0, 3))
	pick(t, l, 4*n-2, 2, places(4*n-1, 0))
	if got := tidy.Pick(l, 4*n-1, math.MaxInt); len(got) != 2*n || got[0] != 4*n-1 || got[1] != 0 || got[2*n-1] != 4*n-4 {
		t.Fatal(len(got))
	}
	due(t, l, true)
	due(t, append(slices.Repeat([]api.Frame{dirty, clean}, n), clean), false)
	due(t, append(slices.Repeat([]api.Frame{dirty, clean}, n), dirty), true)
	for i := range 100_000 {
		if got := tidy.Pick(l, 4*i, 1); len(got) != 1 || got[0] != 4*i {
			t.Fatal(i, got)
		}
		if got := tidy.Pick(l, i, -i); len(got) != 0 {
			t.Fatal(i, got)
		}
	}
}

// What is answered is memory of its own: no answer grows into another.
func TestAnswersAreTheCallersOwn(t *testing.T) {
	l := []api.Frame{dirty, dirty, clean, dirty}
	for most := range 5 {
		first := tidy.Pick(l, 0, most)
		want := plainPick(l, 0, most)
		_ = append(first, 91, 92, 93)
		second := tidy.Pick(l, 0, most)
		for i := range first {
			first[i] = 71
		}
		if !slices.Equal(second, want) || !slices.Equal(tidy.Pick(l, 0, most), want) {
			t.Fatal(first, second)
		}
	}
}

// 21.2, T4: who picks a few at a time, and goes on behind the last of them, has written each frame that may go within one round, though others get dirty again meanwhile.
func TestNoneIsPassedBy(t *testing.T) {
	c := rand.New(rand.NewSource(211))
	for range 3000 {
		var l []api.Frame
		for range 1 + c.Intn(32) {
			l = append(l, frame(c))
		}
		waits := map[int]bool{}
		for _, f := range plainPick(l, 0, len(l)) {
			waits[f] = true
		}
		most, from := 1+c.Intn(4), c.Intn(len(l))
		for gone := 0; gone < len(l); {
			got := tidy.Pick(l, from+len(l)*(c.Intn(9)-4), most)
			for _, f := range got {
				l[f].Dirty = c.Intn(3) == 0
				delete(waits, f)
			}
			if len(got) < most {
				break // all were told
			}
			last := got[most-1]
			gone += 1 + (last-from+len(l))%len(l)
			from = (last + 1) % len(l)
		}
		if len(waits) > 0 {
			t.Fatal(waits, l)
		}
	}
}

// house is a core above a device, with what was written to each page last, and how often who comes finds a dirty frame in the way.
type house struct {
	core *core.Core
	disk *disk.Disk
	body [api.MaxPages][]byte
	pins map[int]int
	from int
	met  int
}

// newHouse is one of so many frames, of pages of zeros.
func newHouse(frames int) *house {
	h := &house{core: core.New(frames), disk: disk.New(api.MaxPages), pins: map[int]int{}}
	for p := range h.body {
		h.body[p] = make([]byte, api.Size)
	}
	return h
}

// write has the page of a frame written, and clean.
func (h *house) write(t *testing.T, f int) {
	a := h.core.Arena()
	p := a.Frames()[f].Page
	b, code := page.Seal(p, a.Body(f))
	if code != api.OK || h.disk.Write(p, b) != api.OK || a.Mark(f, false) != api.OK {
		t.Fatal("it can't be written", f, p)
	}
}

// behind writes as Pick says, at most so many, if it is time.
func (h *house) behind(t *testing.T, most int, always bool) {
	l := h.core.Arena().Frames()
	if !always && !tidy.Due(l) {
		return
	}
	for _, f := range tidy.Pick(l, h.from, most) {
		h.write(t, f)
		h.from = f + 1
	}
}

// come pins a page in a frame: false, if there is none.
func (h *house) come(t *testing.T, p int) bool {
	if h.core.Hit(p) >= 0 {
		h.pins[p]++
		return true
	}
	code, f, _ := h.core.Room(p)
	for ; code == api.ErrState; code, f, _ = h.core.Room(p) {
		h.met++
		h.write(t, f)
	}
	if code != api.OK {
		return false
	}
	h.pins[p]++
	if b, code := h.disk.Read(p); code == api.OK {
		if body, code := page.Open(p, b); code == api.OK {
			h.core.Arena().Set(f, 0, body)
			h.core.Arena().Mark(f, false)
		}
	}
	return true
}

// visit has a page come, perhaps be written, and perhaps go again.
func (h *house) visit(t *testing.T, c *rand.Rand) {
	p := c.Intn(12)
	if h.pins[p] > 0 && c.Intn(3) > 0 || !h.come(t, p) {
		if h.pins[p] > 0 {
			h.core.Let(h.core.Arena().Find(p))
			h.pins[p]--
		}
		return
	}
	a := h.core.Arena()
	f := a.Find(p)
	if !bytes.Equal(a.Body(f), h.body[p]) {
		t.Fatal("it is lost", p, a.Body(f), h.body[p])
	}
	if c.Intn(2) == 0 {
		b := []byte{byte(c.Intn(256)), byte(c.Intn(256))}
		off := c.Intn(api.Size - 1)
		a.Set(f, off, b)
		h.body[p] = append(append(slices.Clone(h.body[p][:off]), b...), h.body[p][off+2:]...)
	}
	if c.Intn(4) > 0 {
		h.core.Let(f)
		h.pins[p]--
	}
}

// right is whether what is pinned stays, no page is in two frames, and each frame that is clean has what the device has.
func (h *house) right() bool {
	there := map[int]int{}
	a := h.core.Arena()
	for i, f := range a.Frames() {
		if f.State != api.FUsed {
			continue
		}
		b, _ := h.disk.Read(f.Page)
		body, code := page.Open(f.Page, b)
		if code == api.ErrBlank {
			body = make([]byte, api.Size)
		}
		if there[f.Page]++; there[f.Page] > 1 || f.Pins != h.pins[f.Page] || !f.Dirty && !bytes.Equal(body, a.Body(i)) {
			return false
		}
	}
	for p, n := range h.pins {
		if n > 0 && there[p] == 0 {
			return false
		}
	}
	return true
}

// 21.2, T3, T5: a core behind which all is written finds only clean frames, by a few at a time finds fewer dirty ones than one behind which nothing is; nothing is lost, what is pinned stays, no page is in two frames.
func TestWhoComesFindsCleanFrames(t *testing.T) {
	met := map[int]int{}
	for seed := range int64(60) {
		for _, most := range []int{0, 1, api.MaxFrames} {
			c := rand.New(rand.NewSource(212 + seed))
			h := newHouse(1 + int(seed)%10)
			for range 400 {
				h.visit(t, c)
				h.behind(t, most, most > 1)
				if l := h.core.Arena().Frames(); most > 1 && len(tidy.Pick(l, 0, most)) > 0 {
					t.Fatal("not all were written", l)
				}
				if !h.right() {
					t.Fatal(h.core.Arena().Frames(), h.pins)
				}
			}
			met[most] += h.met
		}
	}
	if met[api.MaxFrames] != 0 || met[1] == 0 || met[1]*2 > met[0] {
		t.Fatal(met)
	}
}

// 21.2: written behind while it is Due, more than half of the frames are clean, or those that are not are pinned.
func TestHalfAreClean(t *testing.T) {
	c := rand.New(rand.NewSource(213))
	written := 0
	for range 60 {
		h := newHouse(1 + c.Intn(12))
		for range 300 {
			h.visit(t, c)
			for tidy.Due(h.core.Arena().Frames()) && len(tidy.Pick(h.core.Arena().Frames(), h.from, 1)) > 0 {
				h.behind(t, 1, false)
				written++
			}
			used, those, idle := 0, 0, 0
			for _, f := range h.core.Arena().Frames() {
				if f.State == api.FUsed {
					used++
				}
				if f.Dirty {
					those++
				}
				if f.Dirty && f.Pins == 0 {
					idle++
				}
			}
			if those > 0 && 2*those >= used && idle > 0 {
				t.Fatal(h.core.Arena().Frames())
			}
			if those > 0 && 2*those < used && tidy.Due(h.core.Arena().Frames()) {
				t.Fatal("it is written without need", h.core.Arena().Frames())
			}
		}
	}
	if written < 60 {
		t.Fatal("nothing was tried", written)
	}
}
