package move_test

import (
	"math"
	"math/rand"
	"testing"

	"lavabo/api"
	"lavabo/core"
	"lavabo/dir"
	"lavabo/move"
)

// edges are numbers where something begins or ends, or where a narrower kind of number would wrap round.
var edges = []int{math.MinInt, math.MinInt + 1, math.MinInt + 5, -1<<32 - 1, -1 << 32, -1<<32 + 1, -1<<32 + 4, math.MinInt32, -257, -256, -255, -252, -251, -128, -6, -5, -4, -3, -2, -1, 0, 1, 2, 3, 4, 5, 6, 7, 8, 9, 10, 15, 16, 17, 127, 128, 129, 255, 256, 257, 258, 259, 260, 261, 262, 1<<16 - 1, 1 << 16, 1<<16 + 1, 1<<16 + 4, math.MaxInt32, 1 << 31, 1<<32 - 1, 1 << 32, 1<<32 + 1, 1<<32 + 2, 1<<32 + 3, 1<<32 + 4, 1<<32 + 5, 1<<32 + 6, 1 << 62, math.MaxInt - 5, math.MaxInt - 1, math.MaxInt}

// numbers are the edges, and all from -70,000 to 70,000.
func numbers() []int {
	l := append([]int(nil), edges...)
	for n := -70000; n <= 70000; n++ {
		l = append(l, n)
	}
	return l
}

// phases and events are all that there are, by hand.
var (
	phases = []int{api.PNone, api.PDrain, api.PCarry, api.PSwitch, api.PDone, api.PBack}
	events = []int{api.EBegin, api.EDrained, api.ECarried, api.EWritten, api.EStop}
)

// is is whether there is such a phase, by hand.
func is(p int) bool {
	switch p {
	case api.PNone, api.PDrain, api.PCarry, api.PSwitch, api.PDone, api.PBack:
		return true
	}
	return false
}

// plainNext is Next told anew, word by word.
func plainNext(p, e int) int {
	switch p {
	case api.PNone:
		if e == api.EBegin {
			return api.PDrain
		}
	case api.PDrain:
		if e == api.EDrained {
			return api.PCarry
		}
		if e == api.EStop {
			return api.PBack
		}
	case api.PCarry:
		if e == api.ECarried {
			return api.PSwitch
		}
		if e == api.EStop {
			return api.PBack
		}
	case api.PSwitch:
		if e == api.EWritten {
			return api.PDone
		}
	}
	return p
}

// plainServes is Serves told anew, word by word.
func plainServes(p int) (bool, bool) {
	switch p {
	case api.PNone, api.PBack, api.PDrain:
		return true, false
	case api.PDone:
		return false, true
	}
	return false, false
}

// The document's example.
func TestExample(t *testing.T) {
	if p := move.Next(api.PNone, api.EBegin); p != api.PDrain {
		t.Fatal(p)
	}
}

// 20.1: May of PNone to PBack, and of no other number.
func TestMay(t *testing.T) {
	for _, p := range phases {
		if !move.May(p) {
			t.Fatal(p)
		}
	}
	for _, p := range numbers() {
		if move.May(p) != is(p) {
			t.Fatal(p)
		}
	}
}

// 20.1: Next of each phase at each event, by hand: EBegin, EDrained, ECarried, EWritten, EStop.
func TestNext(t *testing.T) {
	const none, drain, carry, change, done, back = api.PNone, api.PDrain, api.PCarry, api.PSwitch, api.PDone, api.PBack
	hand := map[int][5]int{
		none:   {drain, none, none, none, none},
		drain:  {drain, carry, drain, drain, back},
		carry:  {carry, carry, change, carry, back},
		change: {change, change, change, done, change},
		done:   {done, done, done, done, done},
		back:   {back, back, back, back, back},
	}
	for _, p := range phases {
		for i, e := range events {
			for range 2 {
				if next := move.Next(p, e); next != hand[p][i] {
					t.Fatal(p, e, next, hand[p][i])
				}
			}
		}
	}
}

// 20.1: at what is no event each phase stays, and what is no phase stays at every event.
func TestNextOfNone(t *testing.T) {
	for _, n := range numbers() {
		for _, p := range phases {
			if next := move.Next(p, n); next != plainNext(p, n) || (n < api.EBegin || n > api.EStop) && next != p {
				t.Fatal(p, n, next)
			}
		}
		for _, e := range events {
			if next := move.Next(n, e); next != plainNext(n, e) || !is(n) && next != n {
				t.Fatal(n, e, next)
			}
		}
	}
	for _, p := range edges {
		for _, e := range edges {
			if next := move.Next(p, e); next != plainNext(p, e) {
				t.Fatal(p, e, next)
			}
		}
	}
}

// 20.1: Over of PDone and PBack, and of no other number; those are the phases that no event leads out of.
func TestOver(t *testing.T) {
	for _, p := range numbers() {
		if move.Over(p) != (p == api.PDone || p == api.PBack) {
			t.Fatal(p)
		}
	}
	for _, p := range phases {
		on := false
		for _, e := range events {
			on = on || move.Next(p, e) != p
		}
		if move.Over(p) == on {
			t.Fatal(p)
		}
	}
}

// 20.1: Serves of each phase by hand: the old shard, the new one, neither; of no phase, neither.
func TestServes(t *testing.T) {
	hand := map[int][2]bool{
		api.PNone:   {true, false},
		api.PBack:   {true, false},
		api.PDrain:  {true, false},
		api.PCarry:  {false, false},
		api.PSwitch: {false, false},
		api.PDone:   {false, true},
	}
	for _, p := range numbers() {
		first, second := move.Serves(p)
		if old, now := plainServes(p); first != old || second != now || first != hand[p][0] || second != hand[p][1] {
			t.Fatal(p, first, second)
		}
	}
}

// 20.2: in no phase, and of no number, do both serve; where a move is over, one does.
func TestNeverBoth(t *testing.T) {
	for _, p := range numbers() {
		old, now := move.Serves(p)
		if old && now || move.Over(p) && old == now || !move.May(p) && (old || now) {
			t.Fatal(p, old, now)
		}
	}
}

// 20.1, 20.2, T4: all runs of eight events, beside the plain one: at most four of them lead on, the new shard never serves just behind a phase in which the old one did, and what is over stays so.
func TestAllRuns(t *testing.T) {
	var run func(p, left, led int)
	run = func(p, left, led int) {
		if led > 4 || !move.May(p) {
			t.Fatal("leads on for ever", p, led)
		}
		if left == 0 {
			return
		}
		for e := -1; e <= 6; e++ {
			next := move.Next(p, e)
			if next != plainNext(p, e) || move.Over(p) && next != p {
				t.Fatal(p, e, next)
			}
			old, _ := move.Serves(p)
			_, now := move.Serves(next)
			if old && now {
				t.Fatal("from one to the other at once", p, e, next)
			}
			on := led
			if next != p {
				on++
			}
			run(next, left-1, on)
		}
	}
	run(api.PNone, 8, 0)
}

// 20.1: the runs of events that end a move, by hand: done, and given up in each phase where it may be.
func TestRuns(t *testing.T) {
	for _, c := range []struct{ events, phases []int }{
		{[]int{api.EBegin, api.EDrained, api.ECarried, api.EWritten}, []int{api.PDrain, api.PCarry, api.PSwitch, api.PDone}},
		{[]int{api.EBegin, api.EStop, api.EBegin, api.EDrained}, []int{api.PDrain, api.PBack, api.PBack, api.PBack}},
		{[]int{api.EBegin, api.EDrained, api.EStop, api.ECarried}, []int{api.PDrain, api.PCarry, api.PBack, api.PBack}},
		{[]int{api.EBegin, api.EDrained, api.ECarried, api.EStop, api.EWritten, api.EStop}, []int{api.PDrain, api.PCarry, api.PSwitch, api.PSwitch, api.PDone, api.PDone}},
		{[]int{api.EStop, api.EWritten, api.ECarried, api.EDrained}, []int{api.PNone, api.PNone, api.PNone, api.PNone}},
		{[]int{api.EBegin, api.EWritten, api.ECarried, api.EBegin, api.EDrained}, []int{api.PDrain, api.PDrain, api.PDrain, api.PDrain, api.PCarry}},
	} {
		p := api.PNone
		for i, e := range c.events {
			if p = move.Next(p, e); p != c.phases[i] {
				t.Fatal(c.events, i, p)
			}
		}
	}
}

// T4: from each phase on a move is over by the events in their turn; it may be given up while pins are awaited or pages go over.
func TestItEnds(t *testing.T) {
	for _, from := range phases {
		p := from
		for _, e := range events[:4] {
			p = move.Next(p, e)
		}
		if !move.Over(p) {
			t.Fatal(from, p)
		}
		gives := from == api.PDrain || from == api.PCarry
		if (move.Next(from, api.EStop) == api.PBack) != (gives || from == api.PBack) {
			t.Fatal(from)
		}
	}
}

// house is cores with pages that go to them by who serves their buckets, a bucket that moves, and the pins of each page.
type house struct {
	d      api.Dir
	phase  int
	bucket int
	to     int
	cores  []*core.Core
	pins   map[int]int
}

// server is the core that may serve a page, nothing where none may; both never may.
func (h *house) server(t *testing.T, page int) *core.Core {
	if h.phase == api.PNone || dir.Bucket(page) != h.bucket {
		return h.cores[dir.Shard(h.d, page)]
	}
	old, now := move.Serves(h.phase)
	switch {
	case old && now:
		t.Fatal("both", h.phase)
	case old:
		return h.cores[h.d.Owner[h.bucket]]
	case now:
		return h.cores[h.to]
	}
	return nil
}

// call pins a page where it is served, or lets it go; while its bucket waits for pins to go, none comes.
func (h *house) call(t *testing.T, page int, pin bool) {
	c := h.server(t, page)
	switch {
	case c == nil:
	case !pin && h.pins[page] > 0:
		c.Let(c.Arena().Find(page))
		h.pins[page]--
	case pin && h.phase == api.PDrain && dir.Bucket(page) == h.bucket:
	case pin && c.Hit(page) >= 0:
		h.pins[page]++
	case pin:
		if code, _, _ := c.Room(page); code == api.OK {
			h.pins[page]++
		}
	}
}

// event is what the old shard's frames tell of the move: drained when no page of the bucket is pinned, carried when none is in a frame; a page is carried at a time.
func (h *house) event() int {
	a := h.cores[h.d.Owner[h.bucket]].Arena()
	for _, f := range a.Frames() {
		switch {
		case f.State != api.FUsed || dir.Bucket(f.Page) != h.bucket:
		case h.phase == api.PDrain && f.Pins > 0:
			return 0
		case h.phase == api.PCarry:
			a.Drop(a.Find(f.Page))
			return 0
		}
	}
	return map[int]int{api.PDrain: api.EDrained, api.PCarry: api.ECarried, api.PSwitch: api.EWritten}[h.phase]
}

// step has the move go on by an event; the directory is put right when it is over, and then none moves.
func (h *house) step(e int) bool {
	h.phase = move.Next(h.phase, e)
	switch {
	case h.phase == api.PCarry && h.d.Phase == api.PDrain:
		h.d, _ = dir.Carry(h.d)
	case h.phase == api.PDone:
		h.d, _ = dir.Switch(h.d)
	case h.phase == api.PBack:
		h.d, _ = dir.Stop(h.d)
	}
	over := move.Over(h.phase)
	if over {
		h.phase = api.PNone
	}
	return over
}

// begin has a bucket begin to move, if none moves.
func (h *house) begin(bucket, to int) {
	d, code := dir.Begin(h.d, bucket, to)
	if code == api.OK {
		h.d, h.bucket, h.to = d, bucket, to
		h.step(api.EBegin)
	}
}

// right is whether no page is in two frames, none is in a frame of another shard than its own, and what is pinned stays.
func (h *house) right() bool {
	there := map[int]int{}
	for shard, c := range h.cores {
		for _, f := range c.Arena().Frames() {
			if f.State == api.FUsed {
				if there[f.Page]++; dir.Shard(h.d, f.Page) != shard || f.Pins != h.pins[f.Page] {
					return false
				}
			}
		}
	}
	for page, n := range h.pins {
		if there[page] > 1 || n > 0 && there[page] != 1 {
			return false
		}
	}
	return true
}

// 20.2, T4, T5: cores whose pages are served as Serves says, while buckets move by the events and are given up at times: no page is in two frames, what is pinned stays, and every move is over when nobody pins any more.
func TestNoPageIsInTwoFrames(t *testing.T) {
	c := rand.New(rand.NewSource(200))
	done, back := 0, 0
	for range 60 {
		h := &house{d: dir.New(1 + c.Intn(4)), pins: map[int]int{}}
		for range 4 {
			h.cores = append(h.cores, core.New(1+c.Intn(8)))
		}
		for range 1500 {
			version := h.d.Version
			switch c.Intn(16) {
			case 0:
				h.begin(c.Intn(api.Buckets), c.Intn(4))
			case 1:
				if c.Intn(4) == 0 && h.phase != api.PNone && h.step(api.EStop) {
					back++
				}
			case 2, 3, 4, 5:
				if h.phase != api.PNone {
					h.step(h.event())
				}
			default:
				h.call(t, c.Intn(api.MaxPages), c.Intn(2) == 0)
			}
			done += h.d.Version - version
			if !h.right() || (h.phase == api.PNone) != (h.d.Phase == api.PNone) {
				t.Fatal(h.d, h.phase, h.pins)
			}
		}
		for page, n := range h.pins {
			for ; n > 0 && h.server(t, page) != nil; n-- {
				h.call(t, page, false)
			}
		}
		for range api.MaxFrames + 3 {
			if h.phase != api.PNone {
				h.step(h.event())
			}
		}
		if h.phase != api.PNone || h.d.Phase != api.PNone || !h.right() {
			t.Fatal("it does not end", h.d, h.phase, h.pins)
		}
	}
	if done < 60*5 || back < 60 {
		t.Fatal("too few moves", done, back)
	}
}
