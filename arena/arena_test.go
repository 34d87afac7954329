package arena_test

import (
	"bytes"
	"math"
	"math/rand"
	"slices"
	"testing"

	"lavabo/api"
	"lavabo/arena"
)

// noFrames are numbers of no frame: next to the edges, and where a narrower kind of number would wrap round.
var noFrames = []int{-1, -2, -31, -32, -33, -256, 32, 33, 63, 64, 127, 128, 255, 256, 257, 1024, 1 << 16, 1<<32 - 1, 1 << 32, 1<<32 + 1, -1 << 32, math.MaxInt32, math.MinInt32, math.MaxInt - 1, math.MaxInt, math.MinInt, math.MinInt + 1}

// noPages are numbers of no page, likewise.
var noPages = []int{-1, -2, -47, -48, -49, -256, 48, 49, 63, 64, 127, 128, 255, 256, 257, 1024, 1 << 16, 1<<32 - 1, 1 << 32, 1<<32 + 1, -1 << 32, math.MaxInt32, math.MinInt32, math.MaxInt - 1, math.MaxInt, math.MinInt, math.MinInt + 1}

// plain is an arena told anew from the words of 10.1 and 10.2.
type plain struct {
	frames []api.Frame
	bodies [][]byte
	free   []int // the one that was free longest is the first
}

func newPlain(n int) *plain {
	p := &plain{}
	for range n {
		p.add()
	}
	return p
}

func (p *plain) rest(f int) {
	p.frames[f] = api.Frame{State: api.FFree, Page: -1}
	p.free = append(p.free, f)
}

func (p *plain) find(page int) int {
	return slices.IndexFunc(p.frames, func(x api.Frame) bool { return x.State == api.FUsed && x.Page == page })
}

func (p *plain) take(page int) int {
	if page < 0 || page > 47 || p.find(page) >= 0 || len(p.free) == 0 {
		return -1
	}
	f := p.free[0]
	p.free = p.free[1:]
	p.frames[f] = api.Frame{State: api.FUsed, Page: page}
	p.bodies[f] = make([]byte, 16)
	return f
}

func (p *plain) has(f int) bool { return f >= 0 && f < len(p.frames) && p.frames[f].State == api.FUsed }

func (p *plain) pin(f int) int {
	if !p.has(f) {
		return api.ErrNone
	}
	if p.frames[f].Pins == 1000 {
		return api.ErrState
	}
	p.frames[f].Pins++
	return 0
}

func (p *plain) unpin(f int) int {
	if !p.has(f) {
		return api.ErrNone
	}
	if p.frames[f].Pins == 0 {
		return api.ErrState
	}
	p.frames[f].Pins--
	return 0
}

func (p *plain) mark(f int, dirty bool) int {
	if !p.has(f) {
		return api.ErrNone
	}
	p.frames[f].Dirty = dirty
	return 0
}

func (p *plain) set(f, off int, b []byte) int {
	if !p.has(f) {
		return api.ErrNone
	}
	if len(b) > 16 || off < 0 || off > 16 || off+len(b) > 16 {
		return api.ErrRange
	}
	for i, c := range b {
		p.bodies[f][off+i] = c
	}
	p.frames[f].Dirty = true
	return 0
}

func (p *plain) drop(f int) int {
	if !p.has(f) {
		return api.ErrNone
	}
	if p.frames[f].Pins > 0 {
		return api.ErrPinned
	}
	p.rest(f)
	return 0
}

func (p *plain) add() int {
	f := slices.IndexFunc(p.frames, func(x api.Frame) bool { return x.State == api.FRetired })
	if f < 0 {
		if len(p.frames) == 32 {
			return -1
		}
		f = len(p.frames)
		p.frames, p.bodies = append(p.frames, api.Frame{}), append(p.bodies, nil)
	}
	p.rest(f)
	return f
}

func (p *plain) retire() int {
	if len(p.free) == 0 {
		return -1
	}
	f := p.free[0]
	p.free = p.free[1:]
	p.frames[f].State = api.FRetired
	return f
}

// stands asks everything of an arena that may be asked without a step, of the numbers of no frame and no page, too.
func stands(t *testing.T, a *arena.Arena, p *plain) {
	t.Helper()
	if got := a.Frames(); !slices.Equal(got, p.frames) {
		t.Fatalf("Frames() = %v, want %v", got, p.frames)
	}
	if got := a.Free(); got != len(p.free) {
		t.Fatalf("Free() = %d, want %d", got, len(p.free))
	}
	for page := -1; page <= 48; page++ {
		if got := a.Find(page); got != p.find(page) {
			t.Fatalf("Find(%d) = %d, want %d", page, got, p.find(page))
		}
	}
	for f := -1; f <= 32; f++ {
		var want []byte
		if p.has(f) {
			want = p.bodies[f]
		}
		if got := a.Body(f); !bytes.Equal(got, want) {
			t.Fatalf("Body(%d) = %v, want %v", f, got, want)
		}
	}
}

// A step of an arena: its kind, a frame or a page, an offset, bytes, a mark.
const (
	kTake = iota
	kPin
	kUnpin
	kMark
	kSet
	kDrop
	kAdd
	kRetire
	kinds
)

type step struct {
	kind, n, off int
	b            []byte
	dirty        bool
}

func (s step) on(a *arena.Arena) int {
	switch s.kind {
	case kTake:
		return a.Take(s.n)
	case kPin:
		return a.Pin(s.n)
	case kUnpin:
		return a.Unpin(s.n)
	case kMark:
		return a.Mark(s.n, s.dirty)
	case kSet:
		return a.Set(s.n, s.off, s.b)
	case kDrop:
		return a.Drop(s.n)
	case kAdd:
		return a.Add()
	}
	return a.Retire()
}

func (s step) plainly(p *plain) int {
	switch s.kind {
	case kTake:
		return p.take(s.n)
	case kPin:
		return p.pin(s.n)
	case kUnpin:
		return p.unpin(s.n)
	case kMark:
		return p.mark(s.n, s.dirty)
	case kSet:
		return p.set(s.n, s.off, s.b)
	case kDrop:
		return p.drop(s.n)
	case kAdd:
		return p.add()
	}
	return p.retire()
}

// both makes a step on an arena and on the plain one.
func both(t *testing.T, a *arena.Arena, p *plain, s step) {
	t.Helper()
	want := s.plainly(p)
	if got := s.on(a); got != want {
		t.Fatalf("%+v = %d, want %d", s, got, want)
	}
}

// is makes a step, and holds what it answers against want.
func is(t *testing.T, a *arena.Arena, s step, want int) {
	t.Helper()
	if got := s.on(a); got != want {
		t.Fatalf("%+v = %d, want %d", s, got, want)
	}
}

func take(t *testing.T, a *arena.Arena, page, want int) {
	t.Helper()
	is(t, a, step{kind: kTake, n: page}, want)
}

func drop(t *testing.T, a *arena.Arena, f, want int) {
	t.Helper()
	is(t, a, step{kind: kDrop, n: f}, want)
}

func add(t *testing.T, a *arena.Arena, want int) {
	t.Helper()
	is(t, a, step{kind: kAdd}, want)
}

func retire(t *testing.T, a *arena.Arena, want int) {
	t.Helper()
	is(t, a, step{kind: kRetire}, want)
}

// taken is an arena of n frames, the first of which have these pages, in turn, and the plain one.
func taken(t *testing.T, n int, pages ...int) (*arena.Arena, *plain) {
	t.Helper()
	a, p := arena.New(n), newPlain(n)
	for _, page := range pages {
		both(t, a, p, step{kind: kTake, n: page})
	}
	stands(t, a, p)
	return a, p
}

// 10.1: New takes 0 to 32, and all frames are free, by numbers.
func TestNew(t *testing.T) {
	for n := range 33 {
		a, p := taken(t, n)
		if got := a.Frames(); !slices.Equal(got, slices.Repeat([]api.Frame{{State: 0, Page: -1}}, n)) {
			t.Fatalf("of New(%d): %v", n, got)
		}
		for page := range n {
			take(t, a, 47-page, page)
			p.take(47 - page)
		}
		take(t, a, 0, -1)
		stands(t, a, p)
	}
}

// 10.1: there is no arena of other numbers of frames.
func TestNewOfNone(t *testing.T) {
	for _, n := range noFrames {
		want := n == 32 // an arena of 32 is one
		if (arena.New(n) != nil) != want {
			t.Errorf("New(%d) is %v", n, arena.New(n))
		}
	}
}

// 10.1: the document's example, and that of DOC.md: two frames, two pages: 0 and 1.
func TestExamples(t *testing.T) {
	a := arena.New(2)
	take(t, a, 5, 0)
	take(t, a, 6, 1)
	take(t, a, 7, -1)
}

// 10.1: the frame that was free longest is taken, in whatever order frames are dropped.
func TestFreeLongest(t *testing.T) {
	c := rand.New(rand.NewSource(10))
	for n := 1; n <= 32; n++ {
		a, p := taken(t, n)
		for page := range n {
			both(t, a, p, step{kind: kTake, n: page})
		}
		for range 6 {
			gone := c.Perm(n)[:1+c.Intn(n)]
			for _, f := range gone {
				drop(t, a, f, 0)
				p.drop(f)
			}
			stands(t, a, p)
			for _, f := range gone {
				page := 0
				for p.find(page) >= 0 {
					page++
				}
				take(t, a, page, f)
				p.take(page)
			}
			stands(t, a, p)
		}
	}
}

// 10.1: one that was dropped waits behind those that were never used.
func TestDroppedIsTheLast(t *testing.T) {
	a, _ := taken(t, 4, 10, 11)
	drop(t, a, 1, 0)
	drop(t, a, 0, 0)
	for i, want := range []int{2, 3, 1, 0, -1} {
		take(t, a, i, want)
	}
}

// 10.1: a page that has a frame takes no other, whatever its frame is like, and however many are free.
func TestPageThatHasOne(t *testing.T) {
	for n := 1; n <= 4; n++ {
		a, p := taken(t, n, 3)
		for _, s := range []step{{kind: kPin}, {kind: kSet}, {kind: kUnpin}, {kind: kMark}} {
			take(t, a, 3, -1)
			stands(t, a, p)
			both(t, a, p, s)
		}
		take(t, a, 3, -1)
		stands(t, a, p)
		drop(t, a, 0, 0)
		take(t, a, 3, 1%n)
		take(t, a, 3, -1)
	}
}

// 10.1: every page may be taken; of no page there is no frame.
func TestPages(t *testing.T) {
	a, p := taken(t, 2)
	for page := range 48 {
		both(t, a, p, step{kind: kTake, n: page})
		stands(t, a, p)
		for _, none := range noPages {
			take(t, a, none, -1)
			if got := a.Find(none); got != -1 {
				t.Fatalf("Find(%d) = %d", none, got)
			}
		}
		stands(t, a, p)
		both(t, a, p, step{kind: kDrop, n: page % 2})
		stands(t, a, p)
	}
}

// 10.1: where no frame is free none is taken: all used, or retired, or none there.
func TestNoneIsFree(t *testing.T) {
	a, p := taken(t, 3, 0, 1)
	both(t, a, p, step{kind: kRetire})
	empty, e := taken(t, 0)
	for _, page := range append(noPages, 0, 1, 2, 47) {
		take(t, a, page, -1)
		take(t, empty, page, -1)
	}
	stands(t, a, p)
	stands(t, empty, e)
}

// 10.1: what a frame is taken with: a page, no pins, not Dirty, zeros, whatever it was when it was dropped or retired.
func TestTakenIsFresh(t *testing.T) {
	for _, again := range []bool{false, true} {
		a, p := taken(t, 1, 7)
		for _, s := range []step{{kind: kSet, b: bytes.Repeat([]byte{255}, 16)}, {kind: kPin}, {kind: kUnpin}, {kind: kDrop}} {
			both(t, a, p, s)
		}
		if got := a.Frames()[0]; got != (api.Frame{Page: -1}) || len(a.Body(0)) != 0 {
			t.Fatalf("free: %v, %v", got, a.Body(0))
		}
		if again {
			both(t, a, p, step{kind: kRetire})
			stands(t, a, p)
			both(t, a, p, step{kind: kAdd})
			stands(t, a, p)
		}
		both(t, a, p, step{kind: kTake, n: 8})
		stands(t, a, p)
		if got := a.Frames()[0]; got != (api.Frame{State: api.FUsed, Page: 8}) || !bytes.Equal(a.Body(0), make([]byte, 16)) {
			t.Fatalf("taken again: %v, %v", got, a.Body(0))
		}
	}
}

// 10.1: up to a thousand pins, and down to none, of each frame by itself; beyond is ErrState, and changes nothing.
func TestPins(t *testing.T) {
	for n := range 32 {
		a, p := taken(t, 32)
		for page := range 32 {
			both(t, a, p, step{kind: kTake, n: page})
		}
		is(t, a, step{kind: kUnpin, n: n}, api.ErrState)
		stands(t, a, p)
		for range 1000 {
			is(t, a, step{kind: kPin, n: n}, 0)
			p.pin(n)
		}
		stands(t, a, p)
		is(t, a, step{kind: kPin, n: n}, api.ErrState)
		is(t, a, step{kind: kPin, n: n}, api.ErrState)
		stands(t, a, p)
		for pins := 1000; pins > 0; pins-- {
			if got := a.Frames()[n].Pins; got != pins {
				t.Fatalf("%d pins, want %d", got, pins)
			}
			drop(t, a, n, api.ErrPinned)
			is(t, a, step{kind: kUnpin, n: n}, 0)
		}
		is(t, a, step{kind: kUnpin, n: n}, api.ErrState)
		drop(t, a, n, 0)
	}
}

// 10.1: Mark says what the frame's mark is, Set marks it, and nothing else does.
func TestMarks(t *testing.T) {
	for n := range 3 {
		a, p := taken(t, 3, 5, 6, 7)
		for _, s := range []step{{kind: kMark, dirty: true}, {kind: kMark, dirty: true}, {kind: kPin}, {kind: kUnpin}, {kind: kMark}, {kind: kMark}, {kind: kPin}, {kind: kMark, dirty: true}, {kind: kMark}, {kind: kSet, b: []byte{0}}, {kind: kMark}, {kind: kSet, off: 17}, {kind: kSet, off: 16}, {kind: kMark}, {kind: kSet}, {kind: kSet, off: -1}} {
			s.n = n
			both(t, a, p, s)
			stands(t, a, p)
		}
		if !a.Frames()[n].Dirty {
			t.Fatal("Set of no bytes doesn't mark")
		}
	}
}

// 10.1: a frame that is not used is ErrNone to all, whatever else is asked: a free one, a retired one, none; nothing changes.
func TestNoFrame(t *testing.T) {
	a, p := taken(t, 3, 1)
	both(t, a, p, step{kind: kRetire})
	for _, f := range append([]int{1, 2, 3, 31}, noFrames...) {
		for _, s := range []step{{kind: kPin}, {kind: kUnpin}, {kind: kMark}, {kind: kMark, dirty: true}, {kind: kDrop}, {kind: kSet}, {kind: kSet, b: []byte{1}}, {kind: kSet, off: 17}, {kind: kSet, off: -1}, {kind: kSet, b: make([]byte, 17)}} {
			s.n = f
			is(t, a, s, api.ErrNone)
		}
		if len(a.Body(f)) != 0 {
			t.Fatalf("Body(%d) = %v", f, a.Body(f))
		}
		stands(t, a, p)
	}
}

// 10.1: all places and lengths: what lies within is put there, and nothing else is.
func TestSetAll(t *testing.T) {
	for off := -2; off <= 19; off++ {
		for n := range 20 {
			a, p := taken(t, 2, 0, 1)
			for f := range 2 {
				both(t, a, p, step{kind: kSet, n: f, b: []byte("ABCDEFGHIJKLMNOP")})
				both(t, a, p, step{kind: kMark, n: f})
			}
			b := []byte("abcdefghijklmnopqrst")[:n]
			want := 0
			if off < 0 || off+n > 16 {
				want = api.ErrRange
			}
			is(t, a, step{kind: kSet, n: 1, off: off, b: b}, want)
			p.set(1, off, b)
			stands(t, a, p)
		}
	}
}

// 10.1: places far out, of much and of nothing, are out of range.
func TestSetFarOut(t *testing.T) {
	a, p := taken(t, 1, 0)
	for _, off := range []int{-1, -16, -256, 17, 32, 256, 1 << 16, 1 << 32, 1<<32 + 1, -1 << 32, math.MaxInt32, math.MinInt32, math.MaxInt, math.MaxInt - 1, math.MaxInt - 16, math.MinInt, math.MinInt + 1, math.MinInt + 16} {
		for _, n := range []int{0, 1, 2, 15, 16, 17, 256, 1 << 16} {
			is(t, a, step{kind: kSet, off: off, b: make([]byte, n)}, api.ErrRange)
		}
	}
	for _, n := range []int{17, 18, 32, 256, 257, 272, 1 << 16, 1<<16 + 1} {
		is(t, a, step{kind: kSet, b: bytes.Repeat([]byte{7}, n)}, api.ErrRange)
	}
	stands(t, a, p)
}

// 10.1: a pinned frame is not dropped, a Dirty one is; a page whose frame was dropped has none.
func TestDrop(t *testing.T) {
	a, p := taken(t, 3, 20, 21, 22)
	for _, s := range []step{{kind: kPin, n: 1}, {kind: kPin, n: 1}, {kind: kDrop, n: 1}, {kind: kUnpin, n: 1}, {kind: kDrop, n: 1}, {kind: kSet, n: 1, b: []byte{1}}, {kind: kDrop, n: 1}, {kind: kUnpin, n: 1}, {kind: kDrop, n: 1}, {kind: kDrop, n: 1}, {kind: kDrop, n: 0}, {kind: kTake, n: 21}} {
		both(t, a, p, s)
		stands(t, a, p)
	}
	if a.Find(20) != -1 || a.Find(21) != 1 || a.Find(22) != 2 {
		t.Fatal(a.Frames())
	}
}

// 10.2: Add makes frames by numbers, up to 32 with those there were, each the last one of the free.
func TestAdd(t *testing.T) {
	for n := range 33 {
		a, p := taken(t, n)
		for f := n; f < 32; f++ {
			add(t, a, f)
			p.add()
			stands(t, a, p)
		}
		add(t, a, -1)
		add(t, a, -1)
		stands(t, a, p)
		for page := range 32 {
			take(t, a, page, page)
		}
		add(t, a, -1)
		drop(t, a, 9, 0)
		add(t, a, -1)
		if len(a.Frames()) != 32 || a.Free() != 1 {
			t.Fatal(a.Frames(), a.Free())
		}
	}
}

// 10.2: the least retired one comes back ahead of a new number, as the last one of the free, in whatever order they were retired.
func TestLeastRetiredComesBack(t *testing.T) {
	c := rand.New(rand.NewSource(102))
	for range 300 {
		n := 1 + c.Intn(32)
		a, p := taken(t, n)
		for page := range n {
			both(t, a, p, step{kind: kTake, n: page})
		}
		gone := c.Perm(n)[:c.Intn(n+1)]
		for _, f := range gone {
			drop(t, a, f, 0)
			p.drop(f)
		}
		for _, f := range gone {
			retire(t, a, f)
			p.retire()
			stands(t, a, p)
		}
		retire(t, a, -1)
		slices.Sort(gone)
		for _, f := range gone {
			add(t, a, f)
			p.add()
			stands(t, a, p)
		}
		next := n
		if n == 32 {
			next = -1
		}
		add(t, a, next)
	}
}

// 10.2: of 32 frames retired ones come back, though there is no number more.
func TestRetiredOfThirtyTwo(t *testing.T) {
	a, p := taken(t, 32)
	for f := range 32 {
		retire(t, a, f)
		p.retire()
	}
	retire(t, a, -1)
	take(t, a, 0, -1)
	stands(t, a, p)
	for f := range 32 {
		add(t, a, f)
		p.add()
		stands(t, a, p)
	}
	add(t, a, -1)
	stands(t, a, p)
}

// 10.2: Retire takes the frame that was free longest, no used one, pinned or not.
func TestRetire(t *testing.T) {
	a, p := taken(t, 5, 10, 11, 12)
	both(t, a, p, step{kind: kPin, n: 2})
	drop(t, a, 1, 0)
	p.drop(1)
	for _, want := range []int{3, 4, 1, -1, -1} {
		retire(t, a, want)
		p.retire()
		stands(t, a, p)
	}
	want := []api.Frame{{State: api.FUsed, Page: 10}, {State: api.FRetired, Page: -1}, {State: api.FUsed, Page: 12, Pins: 1}, {State: api.FRetired, Page: -1}, {State: api.FRetired, Page: -1}}
	if got := a.Frames(); !slices.Equal(got, want) {
		t.Fatal(got)
	}
	none, e := taken(t, 0)
	retire(t, none, -1)
	stands(t, none, e)
}

// 10.2: one that comes back is free behind all that are, and is retired again behind them.
func TestComesBackAsTheLast(t *testing.T) {
	a, _ := taken(t, 3)
	retire(t, a, 0)
	add(t, a, 0)
	add(t, a, 3)
	retire(t, a, 1)
	add(t, a, 1)
	for i, want := range []int{2, 0, 3, 1, -1} {
		take(t, a, i, want)
	}
}

// steps are those of which all runs are made.
var steps = []step{
	{kind: kTake, n: 0}, {kind: kTake, n: 47}, {kind: kPin, n: 0}, {kind: kUnpin, n: 0}, {kind: kSet, n: 0, off: 15, b: []byte{9}},
	{kind: kMark, n: 0}, {kind: kDrop, n: 0}, {kind: kDrop, n: 1}, {kind: kAdd}, {kind: kRetire},
}

// 10.1, 10.2: all runs of five steps, on arenas of no frames, of one, of two, and of two that are used.
func TestAllRuns(t *testing.T) {
	runs := 10 * 10 * 10 * 10 * 10
	for start := range 4 {
		for run := range runs {
			a, p := arena.New(min(start, 2)), newPlain(min(start, 2))
			if start == 3 {
				both(t, a, p, steps[0])
				both(t, a, p, steps[1])
			}
			for range 5 {
				both(t, a, p, steps[run%10])
				run /= 10
			}
			if got := a.Frames(); !slices.Equal(got, p.frames) || a.Free() != len(p.free) || a.Find(0) != p.find(0) || a.Find(47) != p.find(47) {
				t.Fatalf("%v, want %v", got, p.frames)
			}
			for f := range p.frames {
				if p.has(f) && !bytes.Equal(a.Body(f), p.bodies[f]) {
					t.Fatalf("Body(%d) = %v, want %v", f, a.Body(f), p.bodies[f])
				}
			}
		}
	}
}

// byChance is a step, those of kinds that often names oftener.
func byChance(c *rand.Rand, often []int, pages, frames int) step {
	s := step{kind: often[c.Intn(len(often))], n: c.Intn(frames+2) - 1, off: c.Intn(20) - 2, dirty: c.Intn(2) == 0}
	if s.kind == kTake {
		s.n = c.Intn(pages+2) - 1
	}
	s.b = make([]byte, c.Intn(19))
	c.Read(s.b)
	return s
}

// right is 10.3, of what Frames, Free and Find tell alone.
func right(t *testing.T, a *arena.Arena) {
	t.Helper()
	var pages [48]int
	free := 0
	for f, x := range a.Frames() {
		switch x.State {
		case api.FUsed:
			pages[x.Page]++
			if a.Find(x.Page) != f || len(a.Body(f)) != 16 {
				t.Fatalf("frame %d has page %d, Find tells %d", f, x.Page, a.Find(x.Page))
			}
			continue
		case api.FFree:
			free++
		case api.FRetired:
		default:
			t.Fatalf("frame %d: %v", f, x)
		}
		if x != (api.Frame{State: x.State, Page: -1}) || len(a.Body(f)) != 0 {
			t.Fatalf("frame %d: %v, %v", f, x, a.Body(f))
		}
	}
	if a.Free() != free {
		t.Fatalf("Free() = %d of %d", a.Free(), free)
	}
	for page, n := range pages {
		if n > 1 || n == 0 && a.Find(page) != -1 {
			t.Fatalf("page %d is in %d frames, Find tells %d", page, n, a.Find(page))
		}
	}
}

// 10.1, 10.2, 10.3: long lives of arenas, by chance, beside the plain one: of few frames and many, few pages and all.
func TestLives(t *testing.T) {
	c := rand.New(rand.NewSource(1010))
	for life := range 300 {
		n := c.Intn(33)
		a, p := taken(t, n)
		often := []int{kTake, kPin, kUnpin, kMark, kSet, kDrop, kAdd, kRetire}
		for range c.Intn(12) {
			often = append(often, c.Intn(kinds))
		}
		pages := 1 + c.Intn(48)
		for range 400 {
			both(t, a, p, byChance(c, often, pages, max(1, len(p.frames))))
			right(t, a)
			if life%3 == 0 {
				stands(t, a, p)
			}
		}
		stands(t, a, p)
	}
}

// 10.1: pages that come and go, time after time, more of them than there are frames, are found all the same.
func TestPagesComeAndGo(t *testing.T) {
	c := rand.New(rand.NewSource(1011))
	for _, n := range []int{1, 2, 16, 31, 32} {
		a, p := taken(t, n)
		for range 3000 {
			page := c.Intn(48)
			if f := p.find(page); f >= 0 {
				both(t, a, p, step{kind: kDrop, n: f})
			} else {
				both(t, a, p, step{kind: kTake, n: page})
			}
			if c.Intn(20) == 0 {
				stands(t, a, p)
			}
		}
		stands(t, a, p)
	}
}

// T5: whatever is asked, what is pinned stays, with its page and its bytes; and who is told that there is no frame, of a page that has none, is told so while none is free.
func TestPinnedStays(t *testing.T) {
	c := rand.New(rand.NewSource(5))
	for range 100 {
		a, _ := taken(t, 4)
		take(t, a, 30, 0)
		is(t, a, step{kind: kSet, b: []byte("stays")}, 0)
		is(t, a, step{kind: kPin}, 0)
		for range 200 {
			s := byChance(c, []int{kTake, kTake, kDrop, kDrop, kPin, kUnpin, kSet, kAdd, kRetire}, 48, 6)
			if s.n == 0 && (s.kind == kUnpin || s.kind == kSet) {
				continue
			}
			full := a.Free() == 0
			has := a.Find(s.n) >= 0
			got := s.on(a)
			if s.kind == kTake && s.n >= 0 && s.n < 48 && (got == -1) != (full || has) {
				t.Fatalf("Take(%d) = %d, none is free: %v, it has one: %v", s.n, got, full, has)
			}
			x := a.Frames()[0]
			if x.State != api.FUsed || x.Page != 30 || x.Pins < 1 || a.Find(30) != 0 || string(a.Body(0)[:5]) != "stays" {
				t.Fatalf("behind %+v: %v", s, x)
			}
		}
	}
}

// 10.1, 10.2: of nil: -1, ErrState (ahead of ErrNone and ErrRange), nothing, 0.
func TestNil(t *testing.T) {
	var a *arena.Arena
	for range 2 {
		for _, n := range append([]int{0, 1, 31, 47}, noFrames...) {
			take(t, a, n, -1)
			if a.Find(n) != -1 || len(a.Body(n)) != 0 {
				t.Fatalf("of %d: %d, %v", n, a.Find(n), a.Body(n))
			}
			for _, s := range []step{{kind: kPin}, {kind: kUnpin}, {kind: kMark}, {kind: kMark, dirty: true}, {kind: kDrop}, {kind: kSet}, {kind: kSet, b: []byte{1}}, {kind: kSet, off: 17}, {kind: kSet, off: -1}} {
				s.n = n
				is(t, a, s, api.ErrState)
			}
		}
		add(t, a, -1)
		retire(t, a, -1)
		if len(a.Frames()) != 0 || a.Free() != 0 {
			t.Fatal(a.Frames(), a.Free())
		}
	}
}

// Rule 1: an arena made without New is one without frames, whatever is asked of it first.
func TestArenaWithoutNew(t *testing.T) {
	for first := range kinds {
		var a arena.Arena
		p := newPlain(0)
		both(t, &a, p, step{kind: first})
		stands(t, &a, p)
		for _, s := range []step{{kind: kAdd}, {kind: kTake, n: 4}, {kind: kPin}, {kind: kAdd}, {kind: kRetire}, {kind: kAdd}, {kind: kTake, n: 5}, {kind: kUnpin}, {kind: kDrop}} {
			both(t, &a, p, s)
			stands(t, &a, p)
		}
	}
}

// Rule 2: what is handed in is neither changed nor kept.
func TestHandedInIsTheCallers(t *testing.T) {
	a, p := taken(t, 1, 0)
	whole := []byte("abcdefgh")
	b := whole[2:4]
	is(t, a, step{kind: kSet, off: 6, b: b}, 0)
	is(t, a, step{kind: kSet, off: 15, b: b}, api.ErrRange)
	if string(whole) != "abcdefgh" || len(b) != 2 {
		t.Fatalf("changed: %q", whole)
	}
	p.set(0, 6, []byte("cd"))
	clear(whole)
	stands(t, a, p)
	is(t, a, step{kind: kSet, off: 0, b: []byte("xy")}, 0)
	if !bytes.Equal(whole, make([]byte, 8)) {
		t.Fatalf("kept: %q", whole)
	}
}

// Rule 2: what is told is the caller's own, and stays as it was told.
func TestToldIsTheCallers(t *testing.T) {
	a, p := taken(t, 3, 8, 9)
	both(t, a, p, step{kind: kSet, n: 1, b: []byte("told")})
	one, two, body, again := a.Frames(), a.Frames(), a.Body(1), a.Body(1)
	was := slices.Clone(two)
	clear(one)
	clear(body)
	_ = append(one[:1], api.Frame{Page: 9, Pins: 9})
	_ = append(body[:0], 1, 2, 3)
	_ = append(a.Body(0), 1, 2, 3, 4, 5)
	_ = append(a.Frames(), api.Frame{Pins: 1})
	if !slices.Equal(two, was) || string(again[:4]) != "told" {
		t.Fatal("two answers share", two, again)
	}
	stands(t, a, p)
	for _, s := range []step{{kind: kSet, n: 1, b: []byte("else")}, {kind: kPin, n: 0}, {kind: kDrop, n: 1}, {kind: kAdd}, {kind: kTake, n: 1}, {kind: kTake, n: 2}} {
		both(t, a, p, s)
	}
	if !slices.Equal(two, was) || string(again[:4]) != "told" {
		t.Fatal("an answer is changed by a step", two, again)
	}
	stands(t, a, p)
}

// Rule 3: an arena hangs on the calls ahead on it alone.
func TestArenasAreApart(t *testing.T) {
	a, p := taken(t, 2)
	b, q := taken(t, 2)
	for _, s := range []step{{kind: kTake, n: 5}, {kind: kSet, b: []byte{1}}, {kind: kPin}, {kind: kAdd}, {kind: kRetire}} {
		both(t, a, p, s)
		stands(t, b, q)
	}
	both(t, b, q, step{kind: kTake, n: 6})
	both(t, b, q, step{kind: kTake, n: 5})
	both(t, b, q, step{kind: kDrop, n: 0})
	stands(t, a, p)
	stands(t, b, q)
}
