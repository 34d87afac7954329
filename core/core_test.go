package core_test

import (
	"bytes"
	"math"
	"math/rand"
	"slices"
	"testing"

	"lavabo/api"
	"lavabo/arena"
	"lavabo/core"
)

// noFrames are numbers of no frame: next to the edges, and where a narrower kind of number would wrap round.
var noFrames = []int{-1, -2, -31, -32, -33, -256, 32, 33, 63, 64, 127, 128, 255, 256, 257, 1024, 1 << 16, 1<<32 - 1, 1 << 32, 1<<32 + 1, -1 << 32, math.MaxInt32, math.MinInt32, math.MaxInt - 1, math.MaxInt, math.MinInt, math.MinInt + 1}

// noPages are numbers of no page, likewise.
var noPages = []int{-1, -2, -47, -48, -49, -256, 48, 49, 63, 64, 127, 128, 255, 256, 257, 1024, 1 << 16, 1<<32 - 1, 1 << 32, 1<<32 + 1, -1 << 32, math.MaxInt32, math.MinInt32, math.MaxInt - 1, math.MaxInt, math.MinInt, math.MinInt + 1}

// plain is a core told anew from the words of 11.1, above an arena that has tests of its own.
type plain struct {
	arena *arena.Arena
	order []int // the one that was touched last is the first
	waits []int
}

func newPlain(n int) *plain { return &plain{arena: arena.New(n)} }

// out is the order without f.
func (p *plain) out(f int) {
	p.order = slices.DeleteFunc(p.order, func(g int) bool { return g == f })
}

// drop is arena.Drop: the frame is in no order any more.
func (p *plain) drop(f int) int {
	code := p.arena.Drop(f)
	if code == 0 {
		p.out(f)
	}
	return code
}

// apply puts the order right by all touches that wait.
func (p *plain) apply() {
	for _, f := range p.waits {
		if slices.Contains(p.order, f) {
			p.out(f)
			p.order = slices.Insert(p.order, 0, f)
		}
	}
	p.waits = nil
}

func (p *plain) hit(page int) int {
	f := p.arena.Find(page)
	if f < 0 || p.arena.Pin(f) != 0 {
		return -1
	}
	p.waits = append(p.waits, f)
	if len(p.waits) == 8 {
		p.apply()
	}
	return f
}

// take has a page have a free frame, pinned once, at the front.
func (p *plain) take(page int) int {
	f := p.arena.Take(page)
	p.arena.Pin(f)
	p.order = slices.Insert(p.order, 0, f)
	return f
}

func (p *plain) room(page int) (int, int, int) {
	if p.arena.Find(page) >= 0 {
		return api.ErrHeld, -1, -1
	}
	if page < 0 || page > 47 {
		return api.ErrArg, -1, -1
	}
	if p.arena.Free() > 0 {
		return 0, p.take(page), -1
	}
	p.apply()
	for i := len(p.order) - 1; i >= 0; i-- {
		f := p.order[i]
		x := p.arena.Frames()[f]
		if x.Pins > 0 {
			continue
		}
		if x.Dirty {
			return api.ErrState, f, x.Page
		}
		p.drop(f)
		return 0, p.take(page), x.Page
	}
	return api.ErrFull, -1, -1
}

// stands asks everything of a core that may be asked without a step.
func stands(t *testing.T, c *core.Core, p *plain) {
	t.Helper()
	if got := c.Order(); !slices.Equal(got, p.order) {
		t.Fatalf("Order() = %v, want %v", got, p.order)
	}
	if got, want := c.Arena().Frames(), p.arena.Frames(); !slices.Equal(got, want) {
		t.Fatalf("Frames() = %v, want %v", got, want)
	}
	if got, want := c.Arena().Free(), p.arena.Free(); got != want {
		t.Fatalf("Free() = %d, want %d", got, want)
	}
}

// A step of a core, or of its arena (those from kDrop on): its kind, a frame or a page, a mark.
const (
	kHit = iota
	kRoom
	kLet
	kDrop
	kTake
	kPin
	kUnpin
	kMark
	kAdd
	kRetire
	kinds
)

type step struct {
	kind, n int
	dirty   bool
}

// inArena is a step that leaves the order as it is.
func (s step) inArena(a *arena.Arena) int {
	switch s.kind {
	case kTake:
		return a.Take(s.n)
	case kPin:
		return a.Pin(s.n)
	case kUnpin:
		return a.Unpin(s.n)
	case kMark:
		return a.Mark(s.n, s.dirty)
	case kAdd:
		return a.Add()
	}
	return a.Retire()
}

func (s step) on(c *core.Core) (int, int, int) {
	switch s.kind {
	case kHit:
		return c.Hit(s.n), 0, 0
	case kRoom:
		return c.Room(s.n)
	case kLet:
		return c.Let(s.n), 0, 0
	case kDrop:
		return c.Arena().Drop(s.n), 0, 0
	}
	return s.inArena(c.Arena()), 0, 0
}

func (s step) plainly(p *plain) (int, int, int) {
	switch s.kind {
	case kHit:
		return p.hit(s.n), 0, 0
	case kRoom:
		return p.room(s.n)
	case kLet:
		return p.arena.Unpin(s.n), 0, 0
	case kDrop:
		return p.drop(s.n), 0, 0
	}
	return s.inArena(p.arena), 0, 0
}

// both makes a step on a core and on the plain one.
func both(t *testing.T, c *core.Core, p *plain, s step) {
	t.Helper()
	code, f, v := s.plainly(p)
	if e, g, w := s.on(c); e != code || g != f || w != v {
		t.Fatalf("%+v = %d, %d, %d, want %d, %d, %d", s, e, g, w, code, f, v)
	}
}

func room(t *testing.T, c *core.Core, page, code, frame, victim int) {
	t.Helper()
	if e, f, v := c.Room(page); e != code || f != frame || v != victim {
		t.Fatalf("Room(%d) = %d, %d, %d, want %d, %d, %d", page, e, f, v, code, frame, victim)
	}
}

func hit(t *testing.T, c *core.Core, page, want int) {
	t.Helper()
	if f := c.Hit(page); f != want {
		t.Fatalf("Hit(%d) = %d, want %d", page, f, want)
	}
}

func let(t *testing.T, c *core.Core, f, want int) {
	t.Helper()
	if code := c.Let(f); code != want {
		t.Fatalf("Let(%d) = %d, want %d", f, code, want)
	}
}

func order(t *testing.T, c *core.Core, want ...int) {
	t.Helper()
	if got := c.Order(); !slices.Equal(got, want) {
		t.Fatalf("Order() = %v, want %v", got, want)
	}
}

// ok asks of what was done in the arena that it was done.
func ok(t *testing.T, code int) {
	t.Helper()
	if code != 0 {
		t.Fatalf("in the arena: %d", code)
	}
}

// roomed is a core of n frames, the first of which have these pages, in turn, each pinned once, and the plain one.
func roomed(t *testing.T, n int, pages ...int) (*core.Core, *plain) {
	t.Helper()
	c, p := core.New(n), newPlain(n)
	for _, page := range pages {
		both(t, c, p, step{kind: kRoom, n: page})
	}
	stands(t, c, p)
	return c, p
}

// rested is likewise, with no pins.
func rested(t *testing.T, n int, pages ...int) (*core.Core, *plain) {
	t.Helper()
	c, p := roomed(t, n, pages...)
	for f := range pages {
		both(t, c, p, step{kind: kLet, n: f})
	}
	return c, p
}

// 11.1: a core has an arena of 0 to 32 frames, all free, and nothing in its order; then its pages have them by numbers, and there is no more.
func TestNew(t *testing.T) {
	for n := range 33 {
		c, p := roomed(t, n)
		if got := c.Arena().Frames(); !slices.Equal(got, slices.Repeat([]api.Frame{{State: 0, Page: -1}}, n)) {
			t.Fatalf("of New(%d): %v", n, got)
		}
		want := []int{}
		for f := range n {
			room(t, c, 47-f, 0, f, -1)
			p.room(47 - f)
			want = slices.Insert(want, 0, f)
			order(t, c, want...)
		}
		room(t, c, 0, api.ErrFull, -1, -1)
		stands(t, c, p)
	}
}

// 11.1: there is no core of other numbers of frames.
func TestNewOfNone(t *testing.T) {
	for _, n := range noFrames {
		want := n == 32 // a core of 32 is one
		if (core.New(n) != nil) != want {
			t.Errorf("New(%d) is %v", n, core.New(n))
		}
	}
}

// 11.1: the document's example, and that of DOC.md: all pinned, one more asked for: no frame.
func TestExamples(t *testing.T) {
	c := core.New(1)
	room(t, c, 3, 0, 0, -1)
	room(t, c, 4, api.ErrFull, -1, -1)
}

// 11.1: Hit is the page's frame, pinned once more each time; -1 of a page that has none, and of no page, by which nothing changes.
func TestHit(t *testing.T) {
	c, p := roomed(t, 3, 10, 0, 47)
	for n := 2; n < 30; n++ {
		for f, page := range []int{10, 0, 47} {
			hit(t, c, page, f)
			p.hit(page)
			if got := c.Arena().Frames()[f].Pins; got != n {
				t.Fatalf("frame %d: %d pins, want %d", f, got, n)
			}
		}
		for _, page := range append([]int{1, 9, 11, 46}, noPages...) {
			hit(t, c, page, -1)
		}
		stands(t, c, p)
	}
}

// 11.1: touches wait until there are eight of them, and are Applied then, in their order.
func TestEightTouches(t *testing.T) {
	c, _ := roomed(t, 4, 10, 11, 12, 13)
	for range 5 {
		was := c.Order()
		for _, page := range []int{13, 10, 10, 11, 12, 10, 11} {
			hit(t, c, page, page-10)
			order(t, c, was...)
		}
		hit(t, c, 13, 3)
		order(t, c, 3, 1, 0, 2)
	}
}

// 11.1: Hit of a frame that Pin refuses is -1, and no touch.
func TestHitRefused(t *testing.T) {
	c, p := rested(t, 2, 10, 11)
	for range 1000 {
		both(t, c, p, step{kind: kPin})
	}
	for range 20 {
		hit(t, c, 10, -1)
		stands(t, c, p)
	}
	order(t, c, 1, 0)
	for k := range 8 { // eight touches of the other one are eight
		hit(t, c, 11, 1)
		if k == 3 {
			let(t, c, 0, 0)
			hit(t, c, 10, 0) // the fifth
			hit(t, c, 10, -1)
		}
	}
	room(t, c, 12, api.ErrFull, -1, -1)
	order(t, c, 1, 0)
	if pins := c.Arena().Frames()[0].Pins; pins != 1000 {
		t.Fatalf("%d pins", pins)
	}
}

// 11.1: the frame that Room finds has one pin, is not Dirty, has zeros, and stands at the front, be it a free one or a victim's.
func TestRoomsFrame(t *testing.T) {
	c, _ := rested(t, 2, 10, 11)
	ok(t, c.Arena().Set(0, 3, []byte("old")))
	ok(t, c.Arena().Mark(0, false))
	room(t, c, 12, 0, 0, 10)
	want := []api.Frame{{State: api.FUsed, Page: 12, Pins: 1}, {State: api.FUsed, Page: 11}}
	if got := c.Arena().Frames(); !slices.Equal(got, want) || !bytes.Equal(c.Arena().Body(0), make([]byte, 16)) {
		t.Fatal(got, c.Arena().Body(0))
	}
	order(t, c, 0, 1)
	hit(t, c, 10, -1)
	hit(t, c, 12, 0)
	c.Arena().Add()
	room(t, c, 47, 0, 2, -1)
	if got := c.Arena().Frames()[2]; got != (api.Frame{State: api.FUsed, Page: 47, Pins: 1}) {
		t.Fatal(got)
	}
	order(t, c, 2, 0, 1)
}

// 11.1: ErrHeld of a page that has a frame, whatever the frame is like, free ones there or not; nothing is changed, no touch Applied.
func TestHeld(t *testing.T) {
	for n := 2; n <= 4; n++ {
		c, p := roomed(t, n, 0, 47)
		both(t, c, p, step{kind: kHit, n: 0})
		for _, s := range []step{{kind: kHit, n: 0}, {kind: kMark, dirty: true}, {kind: kLet}, {kind: kLet}, {kind: kLet}, {kind: kMark}} {
			room(t, c, 0, api.ErrHeld, -1, -1)
			room(t, c, 47, api.ErrHeld, -1, -1)
			stands(t, c, p)
			both(t, c, p, s)
		}
		room(t, c, 0, api.ErrHeld, -1, -1)
		order(t, c, 1, 0)
	}
}

// 11.1: ErrArg of no page, a frame there or not; nothing is changed, no touch Applied.
func TestNoPage(t *testing.T) {
	for n := range 4 {
		c, p := rested(t, n, []int{0, 47, 23}[:min(n, 2)]...)
		hit(t, c, 0, min(n, 1)-1)
		p.hit(0)
		for _, page := range noPages {
			room(t, c, page, api.ErrArg, -1, -1)
			stands(t, c, p)
		}
	}
}

// 11.1: every page may have a frame, and every one of them is told as a victim.
func TestPages(t *testing.T) {
	c, p := roomed(t, 1)
	for page := range 48 {
		room(t, c, page, 0, 0, page-1)
		p.room(page)
		stands(t, c, p)
		both(t, c, p, step{kind: kLet})
	}
	room(t, c, 0, 0, 0, 47)
}

// 11.1: a free frame is taken first, though there are frames without pins; the ring is not drained for it.
func TestFreeFirst(t *testing.T) {
	c, _ := rested(t, 3, 10, 11)
	hit(t, c, 10, 0)
	let(t, c, 0, 0)
	room(t, c, 12, 0, 2, -1)
	order(t, c, 2, 1, 0)
	room(t, c, 13, 0, 1, 11) // drained now: the touch of 0 comes behind the coming of 2
	order(t, c, 1, 0, 2)
}

// 11.1: the frame that was free longest is taken, as the arena has it.
func TestFreeLongest(t *testing.T) {
	c, p := rested(t, 4, 10, 11, 12)
	for _, f := range []int{2, 0} {
		both(t, c, p, step{kind: kDrop, n: f})
	}
	for i, want := range []int{3, 2, 0} {
		room(t, c, 20+i, 0, want, -1)
		p.room(20 + i)
		stands(t, c, p)
	}
	room(t, c, 23, 0, 1, 11)
}

// 11.1: the victim is the first frame without pins from the order's end on, wherever it stands.
func TestVictim(t *testing.T) {
	for n := 1; n <= 32; n++ {
		for want := range n {
			c, p := roomed(t, n)
			for f := range n {
				both(t, c, p, step{kind: kRoom, n: f})
			}
			for f := want; f < n; f += 2 { // 0 stands at the end
				both(t, c, p, step{kind: kLet, n: f})
			}
			room(t, c, 47, 0, want, want)
			p.room(47)
			stands(t, c, p)
		}
	}
}

// 11.1: the ring is drained and Applied ahead of the choice, also where there is no frame, or only one that is to be written.
func TestDrained(t *testing.T) {
	c, _ := rested(t, 3, 10, 11, 12)
	hit(t, c, 10, 0)
	let(t, c, 0, 0)
	hit(t, c, 11, 1)
	order(t, c, 2, 1, 0)
	room(t, c, 13, 0, 2, 12)
	order(t, c, 2, 1, 0)
	hit(t, c, 10, 0)
	room(t, c, 14, api.ErrFull, -1, -1)
	order(t, c, 0, 2, 1)
	hit(t, c, 11, 1)
	let(t, c, 2, 0)
	ok(t, c.Arena().Mark(2, true))
	room(t, c, 14, api.ErrState, 2, 13)
	order(t, c, 1, 0, 2)
	for range 7 { // none waits
		hit(t, c, 13, 2)
		order(t, c, 1, 0, 2)
	}
	hit(t, c, 10, 0)
	order(t, c, 0, 2, 1)
}

// 11.1: of a Dirty victim ErrState, its frame and its page; nothing is changed, and so asked again; a clean one ahead of it does not serve.
func TestDirty(t *testing.T) {
	c, p := rested(t, 3, 10, 11, 12)
	both(t, c, p, step{kind: kPin})
	both(t, c, p, step{kind: kMark, n: 1, dirty: true})
	ok(t, c.Arena().Set(1, 0, []byte("to be written")))
	for range 3 {
		room(t, c, 13, api.ErrState, 1, 11)
		stands(t, c, p)
		if got := c.Arena().Body(1); string(got[:13]) != "to be written" {
			t.Fatal(got)
		}
	}
	hit(t, c, 13, -1)
	both(t, c, p, step{kind: kMark, n: 1})
	room(t, c, 13, 0, 1, 11)
	room(t, c, 14, 0, 2, 12)
	order(t, c, 2, 1, 0)
}

// 11.1: a Dirty one that is pinned is passed, and one that stands ahead of a clean one does not matter.
func TestDirtyElsewhere(t *testing.T) {
	c, p := rested(t, 3, 10, 11, 12)
	both(t, c, p, step{kind: kPin})
	both(t, c, p, step{kind: kMark, n: 0, dirty: true})
	both(t, c, p, step{kind: kMark, n: 2, dirty: true})
	room(t, c, 13, 0, 1, 11)
	p.room(13)
	stands(t, c, p)
	both(t, c, p, step{kind: kLet})
	room(t, c, 14, api.ErrState, 0, 10)
}

// 11.1: ErrFull, where all are pinned, and where there is none; the pages that have frames keep them.
func TestFull(t *testing.T) {
	for n := range 33 {
		c, p := roomed(t, n)
		for f := range n {
			both(t, c, p, step{kind: kRoom, n: f})
		}
		for range 2 {
			room(t, c, 40, api.ErrFull, -1, -1)
			stands(t, c, p)
		}
		for f := range n {
			let(t, c, n-1-f, 0)
			room(t, c, 40+f%2, 0, n-1-f, max(n-1-f, 0))
			let(t, c, n-1-f, 0)
			ok(t, c.Arena().Drop(n-1-f))
			room(t, c, n-1-f, 0, n-1-f, -1)
		}
	}
}

// 11.1: Let is Unpin: ErrNone of a frame that is not used, ErrState of one without pins.
func TestLet(t *testing.T) {
	c, p := roomed(t, 3, 10, 11)
	both(t, c, p, step{kind: kHit, n: 10})
	for _, f := range append([]int{2, 3, 31}, noFrames...) {
		let(t, c, f, api.ErrNone)
	}
	stands(t, c, p)
	for _, want := range []int{0, 0, api.ErrState, api.ErrState} {
		let(t, c, 0, want)
		p.arena.Unpin(0)
		stands(t, c, p)
	}
	let(t, c, 1, 0)
	let(t, c, 1, api.ErrState)
	c.Arena().Retire()
	let(t, c, 2, api.ErrNone)
}

// 11.1: what is done in the arena counts: pins, marks, frames more and fewer.
func TestArena(t *testing.T) {
	c, p := rested(t, 2, 10, 11)
	if c.Arena() == nil || c.Arena() != c.Arena() {
		t.Fatal(c.Arena())
	}
	both(t, c, p, step{kind: kPin})
	room(t, c, 12, 0, 1, 11)
	ok(t, c.Arena().Unpin(1))
	ok(t, c.Arena().Pin(1))
	room(t, c, 13, api.ErrFull, -1, -1)
	if f := c.Arena().Add(); f != 2 {
		t.Fatal(f)
	}
	room(t, c, 13, 0, 2, -1)
	let(t, c, 2, 0)
	ok(t, c.Arena().Drop(2))
	if f := c.Arena().Retire(); f != 2 {
		t.Fatal(f)
	}
	order(t, c, 1, 0)
	room(t, c, 13, api.ErrFull, -1, -1)
	let(t, c, 0, 0)
	room(t, c, 13, 0, 0, 10)
	ok(t, c.Arena().Unpin(1))
	let(t, c, 1, api.ErrState)
}

// 11.1: what was Dropped in the arena is in no list any more, whichever of Hit, Room and Order is asked first.
func TestDroppedThere(t *testing.T) {
	for first := range 4 {
		c, p := rested(t, 3, 10, 11, 12)
		both(t, c, p, step{kind: kDrop, n: 1})
		both(t, c, p, step{kind: kRetire})
		switch first {
		case 0:
			hit(t, c, 11, -1)
		case 1:
			room(t, c, 10, api.ErrHeld, -1, -1)
		case 2:
			room(t, c, -1, api.ErrArg, -1, -1)
		}
		order(t, c, 2, 0)
		c.Arena().Add()
		p.arena.Add()
		room(t, c, 11, 0, 1, -1)
		p.room(11)
		order(t, c, 1, 2, 0)
		stands(t, c, p)
	}
}

// 11.1: one that was Dropped there, and taken there by another page, is in no list: Hit finds it, Room does not take it.
func TestTakenThere(t *testing.T) {
	for first := range 3 {
		c, _ := rested(t, 2, 10, 11)
		ok(t, c.Arena().Drop(1))
		if f := c.Arena().Take(12); f != 1 {
			t.Fatal(f)
		}
		switch first {
		case 0:
			hit(t, c, 12, 1)
			let(t, c, 1, 0)
		case 1:
			room(t, c, 12, api.ErrHeld, -1, -1)
		}
		order(t, c, 0)
		for range 8 {
			hit(t, c, 12, 1)
			let(t, c, 1, 0)
		}
		order(t, c, 0)
		room(t, c, 13, 0, 0, 10)
		room(t, c, 14, api.ErrFull, -1, -1)
		order(t, c, 0)
		ok(t, c.Arena().Drop(1))
		room(t, c, 14, 0, 1, -1)
		order(t, c, 1, 0)
	}
}

// 11.1: so it is, though the same page is taken there again: in another frame, or in the same one behind a call of Hit, Room or Order.
func TestSamePageTakenThere(t *testing.T) {
	c, _ := rested(t, 3, 10, 11)
	ok(t, c.Arena().Drop(1))
	if f := c.Arena().Take(11); f != 2 {
		t.Fatal(f)
	}
	order(t, c, 0)
	for first := range 4 {
		c, _ := rested(t, 2, 10, 11)
		ok(t, c.Arena().Drop(1))
		switch first {
		case 0:
			hit(t, c, 10, 0)
		case 1:
			hit(t, c, 11, -1)
		case 2:
			room(t, c, 10, api.ErrHeld, -1, -1)
		default:
			order(t, c, 0)
		}
		if f := c.Arena().Take(11); f != 1 {
			t.Fatal(f)
		}
		order(t, c, 0)
		hit(t, c, 11, 1)
	}
}

// 11.1: the touches of a frame that was Dropped there wait on, and touch what it has when they are Applied; nothing, if it has none.
func TestTouchesStay(t *testing.T) {
	c, _ := rested(t, 3, 10, 11, 12)
	for range 3 {
		hit(t, c, 10, 0)
		let(t, c, 0, 0)
	}
	ok(t, c.Arena().Drop(0))
	order(t, c, 2, 1)
	for range 4 {
		hit(t, c, 11, 1)
	}
	order(t, c, 2, 1)
	room(t, c, 20, 0, 0, -1) // 0 is another page's now
	hit(t, c, 12, 2)         // the eighth: 0, 0, 0, 1, 1, 1, 1, 2
	order(t, c, 2, 1, 0)
	hit(t, c, 20, 0)
	let(t, c, 0, 0)
	let(t, c, 0, 0)
	ok(t, c.Arena().Drop(0))
	for range 7 {
		hit(t, c, 11, 1)
	}
	order(t, c, 1, 2)
	room(t, c, 21, 0, 0, -1)
	order(t, c, 0, 1, 2)
}

// steps are those of which all runs are made. (What is taken in the arena has pages of its own.)
var steps = []step{
	{kind: kHit, n: 0}, {kind: kHit, n: 7}, {kind: kRoom, n: 0}, {kind: kRoom, n: 7}, {kind: kRoom, n: 8}, {kind: kLet, n: 0}, {kind: kLet, n: 1},
	{kind: kDrop, n: 0}, {kind: kDrop, n: 1}, {kind: kMark, n: 0, dirty: true}, {kind: kTake, n: 40}, {kind: kRetire},
}

// 11.1: all runs of five steps, on a core of one frame, of two, and of two that are used.
func TestAllRuns(t *testing.T) {
	runs := 12 * 12 * 12 * 12 * 12
	for start := range 3 {
		for run := range runs {
			c, p := core.New(min(start+1, 2)), newPlain(min(start+1, 2))
			if start == 2 {
				both(t, c, p, step{kind: kRoom, n: 0})
				both(t, c, p, step{kind: kRoom, n: 7})
			}
			for range 5 {
				both(t, c, p, steps[run%12])
				run /= 12
			}
			stands(t, c, p)
		}
	}
}

// byChance is a step, those of kinds that often names oftener; what is taken in the arena has pages from 40 on.
func byChance(c *rand.Rand, often []int, pages, frames int) step {
	s := step{kind: often[c.Intn(len(often))], n: c.Intn(frames+2) - 1, dirty: c.Intn(2) == 0}
	switch s.kind {
	case kHit:
		s.n = c.Intn(pages+2) - 1
		if c.Intn(8) == 0 {
			s.n = 40 + c.Intn(9)
		}
	case kRoom:
		s.n = c.Intn(pages+1) - 1
	case kTake:
		s.n = 40 + c.Intn(9)
	}
	return s
}

// 11.1, 11.2: long lives of cores, by chance, beside the plain one: of few frames and many, few pages and many, with much done in the arena and little.
func TestLives(t *testing.T) {
	r := rand.New(rand.NewSource(1111))
	for life := range 400 {
		n := r.Intn(33)
		if life%2 == 0 {
			n = r.Intn(6)
		}
		c, p := roomed(t, n)
		often := []int{kHit, kRoom, kLet, kHit, kRoom, kLet, kHit, kLet, kHit, kLet, kHit, kLet}
		for k := kDrop; k < kinds; k++ {
			if life%3 > 0 {
				often = append(often, k)
			}
		}
		for range r.Intn(12) {
			often = append(often, r.Intn(kMark))
		}
		pages := 1 + r.Intn(40)
		for range 400 {
			both(t, c, p, byChance(r, often, pages, max(1, len(p.arena.Frames()))))
			if life%4 > 1 || r.Intn(8) == 0 {
				stands(t, c, p)
			}
		}
		stands(t, c, p)
	}
}

// 11.2, T5: what is pinned stays, with its page and its bytes; no page is in two frames; who is told ErrFull is told so while none is free and none without pins.
func TestPinnedStays(t *testing.T) {
	r := rand.New(rand.NewSource(5))
	for range 100 {
		c, _ := roomed(t, 4, 30)
		ok(t, c.Arena().Set(0, 0, []byte("stays")))
		for range 200 {
			s := byChance(r, []int{kHit, kRoom, kRoom, kLet, kLet, kDrop, kAdd, kRetire}, 40, 6)
			if s.n == 0 && s.kind == kLet {
				continue
			}
			code, _, _ := s.on(c)
			room := c.Arena().Free() > 0
			var has [48]int
			for _, x := range c.Arena().Frames() {
				if x.State == api.FUsed {
					has[x.Page]++
					room = room || x.Pins == 0
				}
			}
			if slices.Max(has[:]) > 1 {
				t.Fatalf("a page in two frames: %v", c.Arena().Frames())
			}
			if s.kind == kRoom && code == api.ErrFull && room {
				t.Fatalf("%+v: full, with %v", s, c.Arena().Frames())
			}
			x := c.Arena().Frames()[0]
			if x.State != api.FUsed || x.Page != 30 || x.Pins < 1 || c.Arena().Find(30) != 0 || string(c.Arena().Body(0)[:5]) != "stays" {
				t.Fatalf("behind %+v: %v", s, x)
			}
		}
	}
}

// 11.2: what was touched last stays longest: where all frames are used, the victim is the one without pins whose last use is farthest back.
func TestTouchedLastStaysLongest(t *testing.T) {
	r := rand.New(rand.NewSource(112))
	for _, n := range []int{1, 2, 3, 7, 8, 9, 31, 32} {
		c, p := roomed(t, n)
		last := make([]int, n) // of each frame: its last use
		for f := range n {
			both(t, c, p, step{kind: kRoom, n: f})
			last[f] = f
		}
		for now := n; now < 2000; now++ {
			f := r.Intn(n)
			switch r.Intn(5) {
			case 0, 1:
				last[f] = now
				hit(t, c, c.Arena().Frames()[f].Page, f)
			case 2, 3:
				c.Let(f)
			default:
				want := -1
				for g, x := range c.Arena().Frames() {
					if x.Pins == 0 && (want < 0 || last[g] < last[want]) {
						want = g
					}
				}
				page := r.Intn(48)
				if c.Arena().Find(page) >= 0 {
					continue
				}
				if _, got, _ := c.Room(page); got != want {
					t.Fatalf("of %d: %d, want %d", n, got, want)
				}
				if want >= 0 {
					last[want] = now
				}
			}
		}
	}
}

// 11.1: of nil: -1; ErrState, -1, -1 (ahead of ErrArg and ErrFull); ErrState of Let (ahead of ErrNone); nothing; nil.
func TestNil(t *testing.T) {
	var c *core.Core
	for _, n := range append([]int{0, 1, 31, 47}, noPages...) {
		hit(t, c, n, -1)
		room(t, c, n, api.ErrState, -1, -1)
		let(t, c, n, api.ErrState)
		order(t, c)
		if c.Arena() != nil {
			t.Fatal(c.Arena())
		}
	}
}

// Rule 1: a core made without New has no frame, whatever is asked of it.
func TestCoreWithoutNew(t *testing.T) {
	for first := range 4 {
		var c core.Core
		for k := range 4 {
			switch (first + k) % 4 {
			case 0:
				hit(t, &c, 0, -1)
			case 1:
				room(t, &c, 0, api.ErrFull, -1, -1)
				room(t, &c, -1, api.ErrArg, -1, -1)
			case 2:
				if c.Let(0) == 0 {
					t.Fatal("Let(0) of no frame")
				}
			default:
				order(t, &c)
			}
		}
	}
}

// Rule 2: what is told is the caller's own, and stays as it was told.
func TestToldIsTheCallers(t *testing.T) {
	c, p := roomed(t, 3, 8, 9, 10)
	one, two := c.Order(), c.Order()
	clear(one)
	_ = append(one[:0], 7, 7, 7)
	_ = append(c.Order(), 5)
	if !slices.Equal(two, []int{2, 1, 0}) {
		t.Fatal("two answers share", two)
	}
	stands(t, c, p)
	for _, s := range []step{{kind: kLet, n: 0}, {kind: kRoom, n: 11}, {kind: kLet, n: 1}, {kind: kDrop, n: 1}} {
		both(t, c, p, s)
		stands(t, c, p)
	}
	if !slices.Equal(two, []int{2, 1, 0}) {
		t.Fatal("an answer is changed by a step", two)
	}
}

// Rule 3: a core hangs on the calls ahead on it alone.
func TestCoresAreApart(t *testing.T) {
	c, p := roomed(t, 2)
	d, q := roomed(t, 2)
	for _, s := range []step{{kind: kRoom, n: 5}, {kind: kHit, n: 5}, {kind: kLet}, {kind: kAdd}, {kind: kRoom, n: 6}} {
		both(t, c, p, s)
		stands(t, d, q)
	}
	both(t, d, q, step{kind: kRoom, n: 6})
	both(t, d, q, step{kind: kRoom, n: 5})
	for range 8 {
		both(t, d, q, step{kind: kHit, n: 6})
		stands(t, c, p)
	}
	both(t, d, q, step{kind: kLet, n: 1})
	both(t, d, q, step{kind: kDrop, n: 1})
	stands(t, c, p)
	stands(t, d, q)
}
