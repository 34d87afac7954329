package wreck_test

import (
	"bytes"
	"math"
	"math/rand"
	"slices"
	"testing"

	"lavabo/api"
	"lavabo/disk"
	"lavabo/hist"
	"lavabo/model"
	"lavabo/page"
	"lavabo/ref"
	"lavabo/wreck"
)

// ends are numbers at the ends of int's range, and where a narrower kind of number would wrap round.
var ends = []int{math.MinInt, math.MinInt + 1, -1 << 32, -1<<32 + 1, math.MinInt32, -257, -256, -255, -128, -48, -3, -2, -1, 49, 64, 127, 128, 255, 256, 257, 1 << 16, 1<<16 + 1, math.MaxInt32, 1 << 31, 1 << 32, 1<<32 + 1, 1<<32 + 2, math.MaxInt - 1, math.MaxInt}

// Short words for calls, and what they tell.
func oNew() api.Op               { return api.Op{Kind: api.ONew} }
func oFetch(p int) api.Op        { return api.Op{Kind: api.OFetch, Page: p} }
func oRead(h, off, n int) api.Op { return api.Op{Kind: api.ORead, Handle: h, Off: off, N: n} }
func oWrite(h, off int, d string) api.Op {
	return api.Op{Kind: api.OWrite, Handle: h, Off: off, Data: []byte(d)}
}
func oUnpin(h int) api.Op           { return api.Op{Kind: api.OUnpin, Handle: h} }
func oFlush(p int) api.Op           { return api.Op{Kind: api.OFlush, Page: p} }
func oFlushAll() api.Op             { return api.Op{Kind: api.OFlushAll} }
func oDelete(p int) api.Op          { return api.Op{Kind: api.ODelete, Page: p} }
func done() api.Res                 { return api.Res{} }
func fails(code int) api.Res        { return api.Res{Code: code} }
func pinned(p, h int) api.Res       { return api.Res{Page: p, Handle: h} }
func repeat(s string, n int) string { return string(bytes.Repeat([]byte(s), n)) }

// of is an event of a client.
func of(client int, op api.Op, r api.Res, begin, stamp, end int) api.Event {
	return api.Event{Client: client, Op: op, Res: r, Begin: begin, Stamp: stamp, End: end}
}

// turn is the history of calls of client 0 that were made one by one, the first at step 10, the next at 20: Begin, Stamp and End are unlike. What they tell is the model's.
func turn(ops ...api.Op) []api.Event {
	s := model.New(48, 1)
	var l []api.Event
	for k, op := range ops {
		var r api.Res
		s, r = model.Do(s, 0, op)
		l = append(l, of(0, op, r, 10*k+7, 10*k+10, 10*k+12))
	}
	return l
}

// with is a history with further events.
func with(l []api.Event, more ...api.Event) []api.Event { return slices.Concat(l, more) }

// told is a history in which the event at a place tells otherwise.
func told(l []api.Event, place int, r api.Res) []api.Event {
	l = slices.Clone(l)
	l[place].Res = r
	return l
}

// open is a history in which the last event has not ended.
func open(l []api.Event) []api.Event {
	l = slices.Clone(l)
	l[len(l)-1].End = 0
	return l
}

// body is a text with zeros behind it.
func body(s string) []byte {
	b := make([]byte, api.Size)
	copy(b, s)
	return b
}

// image is a page's image.
func image(p int, s string) []byte {
	b, code := page.Seal(p, body(s))
	if code != api.OK {
		panic(code)
	}
	return b
}

// corrupt is an image that is no page's.
func corrupt() []byte {
	b := image(0, "not so")
	b[3] ^= 1
	return b
}

// parted is the first image's first 12 bytes, and the second one's last.
func parted(first, last []byte) []byte { return slices.Concat(first[:12], last[12:]) }

// blanks is so many pages that were never written.
func blanks(n int) [][]byte {
	var all [][]byte
	for range n {
		all = append(all, page.Blank())
	}
	return all
}

// deep is a copy of a history, lists within, too.
func deep(l []api.Event) []api.Event {
	var n []api.Event
	for _, e := range l {
		e.Op.Data, e.Res.Data = bytes.Clone(e.Op.Data), bytes.Clone(e.Res.Data)
		n = append(n, e)
	}
	return n
}

func alike(a, b []api.Event) bool {
	return slices.EqualFunc(a, b, func(a, b api.Event) bool {
		x, y := a.Op, b.Op
		return a.Client == b.Client && x.Kind == y.Kind && x.Page == y.Page && x.Handle == y.Handle && x.Off == y.Off && x.N == y.N && bytes.Equal(x.Data, y.Data) &&
			model.SameRes(a.Res, b.Res) && a.Begin == b.Begin && a.Stamp == b.Stamp && a.End == b.End
	})
}

func deepImage(image [][]byte) [][]byte {
	var n [][]byte
	for _, b := range image {
		n = append(n, bytes.Clone(b))
	}
	return n
}

// plain is the chapter told anew, each word for all events: of a right history, the states ahead of and behind each event of Order.
type plain struct {
	l             []api.Event
	order         []int
	ahead, behind []api.State
	last          api.State
	right         bool
}

// tell goes over a history: the state behind an event is what hist.Final tells of it and those ahead of it in Order alone.
func tell(l []api.Event, pages, clients int) plain {
	x := plain{l: l, order: hist.Order(l)}
	x.last, x.right = hist.Final(l, pages, clients)
	if !x.right {
		return x
	}
	was := model.New(pages, clients)
	for k := range x.order {
		var some []api.Event
		for place, e := range l {
			if slices.Contains(x.order[:k+1], place) {
				some = append(some, e)
			}
		}
		is, ok := hist.Final(some, pages, clients)
		if !ok {
			panic("a part of a right history is wrong")
		}
		x.ahead, x.behind = append(x.ahead, was), append(x.behind, is)
		was = is
	}
	return x
}

// flushed is 22.1.
func (x plain) flushed(p int) int {
	if !x.right {
		return -1
	}
	greatest := 0
	for k, place := range x.order {
		e := x.l[place]
		there := p >= 0 && p < len(x.ahead[k].There) && x.ahead[k].There[p]
		if there && e.End > 0 && e.Res.Code == 0 && (e.Op.Kind == api.OFlush && e.Op.Page == p || e.Op.Kind == api.OFlushAll) {
			greatest = max(greatest, e.Stamp)
		}
	}
	return greatest
}

// changed is whether there is such an ONew or OWrite as 22.2 asks for of what is corrupt.
func (x plain) changed(p int) bool {
	for k, place := range x.order {
		e := x.l[place]
		if e.Stamp <= x.flushed(p) {
			continue
		}
		if e.Op.Kind == api.ONew && !x.ahead[k].There[p] && x.behind[k].There[p] {
			return true
		}
		if e.Op.Kind == api.OWrite && has(x.ahead[k], e.Client, e.Op.Handle, p) {
			return true
		}
	}
	for _, e := range x.l {
		if e.Stamp == 0 && e.End == 0 && e.Op.Kind == api.OWrite && has(x.last, e.Client, e.Op.Handle, p) {
			return true
		}
	}
	return false
}

// has is whether the client's handle has page p.
func has(s api.State, client, h, p int) bool {
	for n, page := range s.Handles[client] {
		if n == h && page == p {
			return true
		}
	}
	return false
}

// had is whether some state that counts had these bytes of page p from a place on.
func (x plain) had(p, at int, b []byte) bool {
	for k, place := range x.order {
		s := x.behind[k]
		if x.l[place].Stamp >= x.flushed(p) && s.There[p] && bytes.Equal(s.Body[p][at:at+len(b)], b) {
			return true
		}
	}
	return false
}

// may is whether a page may be so.
func (x plain) may(p int, b []byte) bool {
	body, code := page.Open(p, b)
	return code == api.ErrBlank && x.flushed(p) == 0 ||
		code == api.ErrCorrupt && x.changed(p) ||
		code == 0 && x.had(p, 0, body[:4]) && x.had(p, 4, body[4:])
}

// check is 22.2.
func (x plain) check(pages int, image [][]byte) int {
	if !x.right || len(image) != pages {
		return -1
	}
	for p, b := range image {
		if !x.may(p, b) {
			return p + 1
		}
	}
	return 0
}

// check holds that Check tells want, twice, and that what was handed in stays.
func check(t *testing.T, want int, l []api.Event, pages, clients int, image ...[]byte) {
	t.Helper()
	was, before := deep(l), deepImage(image)
	for range 2 {
		if got := wreck.Check(l, pages, clients, image); got != want {
			t.Fatalf("Check(%v, %d, %d, %x) = %d, want %d", l, pages, clients, image, got, want)
		}
	}
	if !alike(l, was) || !slices.EqualFunc(image, before, bytes.Equal) {
		t.Fatalf("Check has changed what was handed in: %v, %x, was %v, %x", l, image, was, before)
	}
}

// flushed holds the same of Flushed, of the pages from 0 on, and of such as there are not.
func flushed(t *testing.T, l []api.Event, pages, clients int, want ...int) {
	t.Helper()
	was := deep(l)
	for range 2 {
		for p, n := range want {
			if got := wreck.Flushed(l, pages, clients, p); got != n {
				t.Fatalf("Flushed(%v, %d, %d, %d) = %d, want %d", l, pages, clients, p, got, n)
			}
		}
	}
	for _, p := range append([]int{pages}, ends...) {
		if got := wreck.Flushed(l, pages, clients, p); got != 0 {
			t.Fatalf("Flushed(%v, %d, %d, %d) = %d", l, pages, clients, p, got)
		}
	}
	if !alike(l, was) {
		t.Fatalf("Flushed has changed what was handed in: %v, was %v", l, was)
	}
}

// The document's example: nothing done, all blank: 0. A nil list is an empty one.
func TestNothing(t *testing.T) {
	for pages := 1; pages <= api.MaxPages; pages++ {
		for clients := 1; clients <= api.MaxClients; clients++ {
			for _, l := range [][]api.Event{nil, {}} {
				check(t, 0, l, pages, clients, blanks(pages)...)
				flushed(t, l, pages, clients, make([]int, pages)...)
			}
		}
	}
}

// 22.1: of the OFlush of the page, and of the OFlushAlls while it was there, the greatest Stamp (not Begin, not End).
func TestFlushed(t *testing.T) {
	flushed(t, turn(oNew()), 2, 1, 0, 0)
	flushed(t, turn(oNew(), oFlush(0)), 2, 1, 20, 0)
	flushed(t, turn(oNew(), oFlush(0), oFlush(0)), 2, 1, 30, 0)
	flushed(t, turn(oNew(), oNew(), oFlush(0), oFlush(1)), 3, 1, 30, 40, 0)
	flushed(t, turn(oNew(), oNew(), oFlush(1), oFlush(0)), 3, 1, 40, 30, 0)
	flushed(t, turn(oNew(), oFlushAll(), oNew(), oNew(), oFlush(1)), 4, 1, 20, 50, 0, 0)
	flushed(t, turn(oNew(), oFlush(0), oFlushAll()), 1, 1, 30)
	flushed(t, turn(oNew(), oFlushAll(), oFlush(0)), 1, 1, 30)
	flushed(t, turn(oNew(), oFlushAll(), oNew(), oFlushAll(), oNew()), 3, 1, 40, 40, 0)
	flushed(t, turn(oFlushAll(), oNew()), 2, 1, 0, 0)
	flushed(t, turn(oFlushAll()), 1, 1, 0)
	// other calls are no flushes, whatever page they are of
	flushed(t, turn(oNew(), oFlush(0), oWrite(0, 0, "a"), oRead(0, 0, 1), oFetch(0), oUnpin(0), oDelete(0), oUnpin(1), oDelete(0), oNew(), oFlush(1), oFlush(-1), oFlush(2), oFlush(48)), 48, 1, 20, 0)
	flushed(t, turn(api.Op{Kind: 9}, api.Op{}, api.Op{Kind: -1}, oNew()), 1, 1, 0)
}

// 22.1: which parts of a call are asked.
func TestFlushedParts(t *testing.T) {
	a, b := api.Op{Kind: api.OFlush, Page: 1, Handle: 7, Off: -3, N: 9, Data: []byte("x")}, api.Op{Kind: api.OFlushAll, Page: 5, Handle: -1, Off: 2, N: -1, Data: []byte("y")}
	flushed(t, turn(oNew(), oNew(), a), 2, 1, 0, 30)
	flushed(t, turn(oNew(), oNew(), b), 2, 1, 30, 30)
}

// 22.1: only what ended with 0 counts.
func TestFlushedFailed(t *testing.T) {
	for _, op := range []api.Op{oFlush(0), oFlushAll()} {
		l := turn(oNew(), op, op)
		flushed(t, l, 2, 1, 30, 0)
		flushed(t, told(l, 2, fails(api.ErrIO)), 2, 1, 20, 0)
		flushed(t, told(told(l, 2, fails(api.ErrIO)), 1, fails(api.ErrIO)), 2, 1, 0, 0)
		flushed(t, told(l, 1, fails(api.ErrIO)), 2, 1, 30, 0)
		flushed(t, open(l), 2, 1, 20, 0) // it took effect, but has not ended
		l = open(l)
		l[2].Stamp = 0 // it has not even done that
		flushed(t, l, 2, 1, 20, 0)
		flushed(t, open(turn(oNew(), op)), 2, 1, 0, 0)
	}
}

// 22.1: a page that is not there any more keeps the Stamp of its last flush; one that is made anew has that of its elder life until it is flushed.
func TestFlushedGone(t *testing.T) {
	l := turn(oNew(), oFlush(0), oUnpin(0), oDelete(0), oFlushAll(), oFlush(0), oNew(), oFlushAll())
	for n, want := range []int{0, 0, 20, 20, 20, 20, 20, 20, 80} {
		flushed(t, l[:n], 2, 1, want, 0)
	}
}

// 22.1: by Stamps, not by places: a call that began first may take effect last; of another client's, too.
func TestFlushedByStamps(t *testing.T) {
	l := []api.Event{
		of(0, oNew(), pinned(0, 0), 1, 1, 1),
		of(1, oFlushAll(), done(), 2, 9, 9),
		of(0, oFlush(0), done(), 3, 4, 5),
		of(0, oFlush(0), done(), 6, 7, 8),
	}
	flushed(t, l, 2, 2, 9, 0)
	flushed(t, told(l, 1, fails(api.ErrIO)), 2, 2, 7, 0)
	// an OFlushAll ahead of which the page was not there, though it began behind
	l = []api.Event{
		of(0, oNew(), pinned(0, 0), 1, 5, 6),
		of(1, oFlushAll(), done(), 2, 3, 9),
	}
	flushed(t, l, 1, 2, 0)
	l[1].Stamp = 7
	flushed(t, l, 1, 2, 7)
	// of one Stamp, places say which is ahead
	l[1].Stamp = 5
	flushed(t, l, 1, 2, 5)
	l = []api.Event{of(1, oFlushAll(), done(), 1, 5, 9), of(0, oNew(), pinned(0, 0), 1, 5, 6)}
	flushed(t, l, 1, 2, 0)
	// great Stamps
	l = []api.Event{of(0, oNew(), pinned(0, 0), 1, math.MaxInt-1, math.MaxInt-1), of(0, oFlush(0), done(), math.MaxInt, math.MaxInt, math.MaxInt)}
	flushed(t, l, 1, 1, math.MaxInt)
	check(t, 1, l, 1, 1, page.Blank())
	check(t, 0, l, 1, 1, image(0, ""))
}

// 22.1, 22.2: -1 of a history that is not right, and of numbers of pages and clients that may not be, whatever page, whatever image.
func TestNotRight(t *testing.T) {
	good := turn(oNew(), oFlush(0), oWrite(0, 0, "a"), oFlushAll(), oUnpin(0))
	var wrong [][]api.Event
	wrong = append(wrong, good[1:], told(good, 0, pinned(1, 0)), told(good, 0, fails(api.ErrIO+1)), told(good, 1, fails(api.ErrFull)), told(good, 4, fails(api.ErrIO)), told(good, 2, fails(api.ErrRange)))
	for place := range good {
		for _, spoil := range []func(e *api.Event){
			func(e *api.Event) { e.Client = 1 },
			func(e *api.Event) { e.Client = -1 },
			func(e *api.Event) { e.Begin = 0 },
			func(e *api.Event) { e.Stamp = e.Begin - 1 },
			func(e *api.Event) { e.Stamp = e.End + 1 },
			func(e *api.Event) { e.Stamp = 0 },
			func(e *api.Event) { e.End = -1 },
			func(e *api.Event) { e.Res.Page = 9 },
			func(e *api.Event) { e.Res.Data = []byte("x") },
		} {
			l := deep(good)
			spoil(&l[place])
			wrong = append(wrong, l)
		}
	}
	for _, l := range wrong {
		for _, p := range append([]int{0, 1, 2, 3}, ends...) {
			if got := wreck.Flushed(l, 2, 1, p); got != -1 {
				t.Fatalf("Flushed(%v, 2, 1, %d) = %d", l, p, got)
			}
		}
		for n := range 4 {
			check(t, -1, l, 2, 1, blanks(n)...)
		}
		check(t, -1, l, 2, 1, image(0, "a"), page.Blank())
		check(t, -1, l, 2, 1, nil, nil)
	}
	for _, n := range append([]int{0, 49}, ends...) {
		for p := -1; p < 3; p++ {
			if wreck.Flushed(nil, n, 1, p) != -1 || wreck.Flushed(good, n, 1, p) != -1 {
				t.Fatal("Flushed of", n, "pages")
			}
		}
		for k := range 3 {
			check(t, -1, nil, n, 1, blanks(k)...)
			check(t, -1, good, n, 1, blanks(k)...)
		}
		if n >= 0 && n < 1000 {
			check(t, -1, nil, n, 1, blanks(n)...)
		}
	}
	for _, n := range append([]int{0, 7, 8}, ends...) {
		if wreck.Flushed(nil, 2, n, 0) != -1 || wreck.Flushed(good, 2, n, 0) != -1 {
			t.Fatal("Flushed of", n, "clients")
		}
		check(t, -1, nil, 2, n, blanks(2)...)
		check(t, -1, good, 2, n, image(0, "a"), page.Blank())
	}
}

// 22.2: -1 unless image has as many pages, be they right or not.
func TestOtherPages(t *testing.T) {
	l := turn(oNew(), oWrite(0, 0, "a"), oFlush(0))
	sealed := image(0, "a")
	for pages := 1; pages <= api.MaxPages; pages++ {
		for n := range api.MaxPages + 3 {
			image := blanks(n)
			if n > 0 {
				image[0] = sealed
			}
			want := -1
			if n == pages {
				want = 0
			}
			check(t, want, l, pages, 1, image...)
		}
		check(t, -1, nil, pages, 1)
		if got := wreck.Check(nil, pages, 1, [][]byte{}); got != -1 {
			t.Fatal(got)
		}
	}
}

// 22.2: the first page that may not be so, counted from 1 on.
func TestFirst(t *testing.T) {
	var ops []api.Op
	for p := range 6 {
		ops = append(ops, oNew(), oWrite(p, 0, string(rune('a'+p))))
	}
	l := turn(append(ops, oFlushAll())...)
	for bits := range 1 << 8 {
		all := blanks(8)
		want := 0
		for p := range all {
			if p < 6 {
				all[p] = image(p, string(rune('a'+p)))
			}
			if bits>>p&1 == 1 {
				all[p] = image(p, "z")
				if want == 0 {
					want = p + 1
				}
			}
		}
		check(t, want, l, 8, 1, all...)
	}
	all := blanks(48)
	for p := range 6 {
		all[p] = image(p, string(rune('a'+p)))
	}
	check(t, 0, l, 48, 1, all...)
	for p := 47; p >= 0; p-- {
		all[p] = corrupt()
		check(t, p+1, l, 48, 1, all...)
	}
}

// 22.2: an image that has not 24 bytes, or is another page's, is no page.
func TestOtherImages(t *testing.T) {
	l := turn(oNew(), oNew(), oWrite(0, 0, "a"), oWrite(1, 0, "a"))
	for n := range 60 {
		want := 2
		if n == api.Image {
			want = 0
		}
		check(t, want, l, 2, 1, image(0, "a"), make([]byte, n))
		long := append(image(1, "a"), make([]byte, 60)...)[:n]
		check(t, want, l, 2, 1, image(0, "a"), long)
		check(t, max(want-1, 0), l, 2, 1, append(image(0, "a"), make([]byte, 60)...)[:n], page.Blank())
	}
	check(t, 1, l, 2, 1, nil, nil)
	check(t, 2, l, 2, 1, page.Blank(), nil)
	// another page's is corrupt: it may be so while the page was changed, and not behind a flush
	check(t, 0, l, 2, 1, image(1, "a"), image(0, "a"))
	check(t, 1, turn(oNew(), oNew(), oFlushAll()), 2, 1, image(1, ""), image(0, ""))
	check(t, 2, turn(oNew(), oNew(), oFlushAll()), 2, 1, image(0, ""), image(0, ""))
}

// 22.2: a page is blank as long as no flush of it ended with 0.
func TestBlank(t *testing.T) {
	for _, x := range []struct {
		want int
		l    []api.Event
	}{
		{0, turn(oNew())},
		{0, turn(oNew(), oWrite(0, 0, "a"), oUnpin(0))},
		{0, turn(oFlushAll(), oNew())},
		{0, turn(oNew(), oNew(), oFlush(1))}, // page 1 is the one that may not be blank
		{0, turn(oNew(), oUnpin(0), oDelete(0), oFlushAll(), oFlush(0))},
		{0, told(turn(oNew(), oFlush(0)), 1, fails(api.ErrIO))},
		{0, told(turn(oNew(), oFlushAll()), 1, fails(api.ErrIO))},
		{0, open(turn(oNew(), oFlush(0)))},
		{1, turn(oNew(), oFlush(0))},
		{1, turn(oNew(), oFlushAll())},
		{1, turn(oNew(), oFlush(0), oWrite(0, 0, "a"))},
		{1, turn(oNew(), oFlush(0), oUnpin(0), oDelete(0))},
		{1, turn(oNew(), oFlush(0), oUnpin(0), oDelete(0), oNew())},
	} {
		all := blanks(2)
		if wreck.Flushed(x.l, 2, 1, 1) > 0 {
			all[1] = image(1, "")
		}
		check(t, x.want, x.l, 2, 1, all...)
	}
}

// 22.2: what is corrupt may be so if the page was made, or was to be written, above its last flush.
func TestCorrupt(t *testing.T) {
	none := api.Res{}
	wild := of(0, oWrite(0, 0, "q"), none, 900, 0, 0) // a call under way that is of page 0, if the handle is
	other := func(op api.Op) api.Event { return of(0, op, none, 900, 0, 0) }
	base := turn(oNew(), oNew(), oFlushAll()) // page 0 by handle 0, page 1 by handle 1
	and := func(ops ...api.Op) []api.Event { return turn(append([]api.Op{oNew(), oNew(), oFlushAll()}, ops...)...) }
	for _, x := range []struct {
		want int
		l    []api.Event
	}{
		// made
		{1, nil},
		{0, turn(oNew())},
		{0, open(turn(oNew()))}, // it took effect, whatever it will tell
		{0, open(told(turn(oNew()), 0, fails(api.ErrFull)))},
		{1, told(turn(oNew()), 0, fails(api.ErrFull))},
		{1, told(turn(oNew()), 0, fails(api.ErrIO))},
		{1, []api.Event{other(oNew())}}, // page 0 has not come to be there
		{1, []api.Event{of(0, oNew(), pinned(0, 0), 900, 0, 0)}},
		{1, base},
		{1, and(oNew())}, // page 2 has
		{0, turn(oNew(), oUnpin(0), oDelete(0))},
		{1, turn(oNew(), oFlush(0), oUnpin(0), oDelete(0))},
		{0, turn(oNew(), oFlush(0), oUnpin(0), oDelete(0), oNew())},
		{1, turn(oNew(), oFlush(0), oUnpin(0), oDelete(0), oNew(), oFlush(0))},
		// written
		{0, and(oWrite(0, 0, "a"))},
		{0, and(oWrite(0, 0, ""))},
		{0, and(oWrite(0, 15, "a"))},
		{0, and(oWrite(0, 15, "ab"))}, // to the letter: it is by a handle of page 0, too
		{0, and(oWrite(0, -1, "a"))},
		{1, and(oWrite(1, 0, "a"))}, // by a handle of page 1
		{1, and(oWrite(2, 0, "a"))}, // by a handle of none
		{1, and(oWrite(-1, 0, "a"))},
		{1, and(oWrite(6, 0, "a"))},
		{1, and(oWrite(math.MinInt, 0, "a"), oWrite(math.MaxInt, 0, "a"), oWrite(1<<32, 0, "a"))},
		{1, and(oUnpin(0), oWrite(0, 0, "a"))},
		{1, and(oUnpin(0), oUnpin(1), oFetch(1), oWrite(0, 0, "a"))},
		{0, and(oUnpin(0), oUnpin(1), oFetch(1), oFetch(0), oWrite(1, 0, "a"))},
		{0, and(oFetch(0), oWrite(2, 0, "a"), oUnpin(2))},
		{0, open(and(oWrite(0, 0, "a")))},
		{1, and(oWrite(0, 0, "a"), oFlush(0))},
		{0, and(oWrite(0, 0, "a"), oFlush(1))},
		{1, and(oWrite(0, 0, "a"), oFlushAll())},
		{0, told(and(oWrite(0, 0, "a"), oFlushAll()), 4, fails(api.ErrIO))},
		{0, open(and(oWrite(0, 0, "a"), oFlushAll()))},
		{0, and(oWrite(0, 0, "a"), oFlush(0), oWrite(0, 0, "b"))},
		{0, turn(oNew(), oFlush(0), oWrite(0, 0, "a"), oUnpin(0), oDelete(0))},
		// neither
		{1, and(oRead(0, 0, 1), oFetch(0), oUnpin(0), oDelete(0), api.Op{}, api.Op{Kind: 9}, oFlush(2), oDelete(3))},
		// under way
		{0, with(base, wild)},
		{0, with(base, other(oWrite(0, 0, "")))},
		{0, with(base, other(oWrite(0, 9, "too long")))},
		{0, with(base, of(0, oWrite(0, 0, "q"), fails(api.ErrIO), 900, 0, 0))},
		{1, with(base, other(oWrite(1, 0, "q")))},
		{1, with(base, other(oWrite(2, 0, "q")))},
		{1, with(base, other(oWrite(6, 0, "q")))},
		{1, with(base, other(oWrite(-1, 0, "q")))},
		{1, with(base, other(oWrite(math.MinInt, 0, "q")))},
		{1, with(base, other(oWrite(math.MaxInt, 0, "q")))},
		{1, with(base, other(oWrite(1<<32, 0, "q")))},
		{1, with(base, other(oNew()))},
		{1, with(base, other(oRead(0, 0, 1)))},
		{1, with(base, other(oFlush(0)))},
		{1, with(base, other(oFlushAll()))},
		{1, with(base, other(oUnpin(0)))},
		{1, with(base, other(oFetch(0)))},
		{1, with(base, other(api.Op{}))},
		{1, with(and(oUnpin(0)), wild)},
		{1, with(and(oUnpin(0), oFetch(1)), wild)},
		{0, with(and(oUnpin(0), oFetch(0)), wild)},
		{0, with(and(oUnpin(0), oFetch(0), oFlush(0)), wild)},
	} {
		all := blanks(4)
		all[0] = corrupt()
		if wreck.Flushed(x.l, 4, 1, 1) > 0 {
			all[1] = image(1, "")
		}
		check(t, x.want, x.l, 4, 1, all...)
	}
}

// 22.2: whose handle it is: a handle's number is each client's own, in what took effect and in what is under way.
func TestCorruptByOthers(t *testing.T) {
	base := []api.Event{
		of(0, oNew(), pinned(0, 0), 1, 1, 1),
		of(1, oNew(), pinned(1, 0), 2, 2, 2),
		of(1, oFetch(0), pinned(0, 1), 3, 3, 3),
		of(2, oFlushAll(), done(), 4, 4, 4),
	}
	for _, x := range []struct{ client, handle, page int }{{0, 0, 0}, {0, 1, -1}, {1, 0, 1}, {1, 1, 0}, {1, 2, -1}, {2, 0, -1}, {2, 1, -1}} {
		code := 0
		if x.page < 0 {
			code = api.ErrHandle
		}
		op := oWrite(x.handle, 0, "w")
		for _, e := range []api.Event{
			of(x.client, op, fails(code), 5, 6, 7),
			of(x.client, op, fails(9), 5, 6, 0),
			of(x.client, op, fails(0), 5, 0, 0),
		} {
			for p := range 3 {
				all := [][]byte{image(0, ""), image(1, ""), page.Blank()}
				all[p] = corrupt()
				want := p + 1
				if p == x.page {
					want = 0
				}
				check(t, want, with(base, e), 3, 3, all...)
			}
		}
	}
}

// 22.2: each handle that a client can have.
func TestCorruptByEachHandle(t *testing.T) {
	base := turn(oNew(), oNew(), oNew(), oNew(), oNew(), oNew(), oFlushAll())
	var all [][]byte
	for p := range 6 {
		all = append(all, image(p, ""))
	}
	for h := -1; h <= 6; h++ {
		code := 0
		if h < 0 || h > 5 {
			code = api.ErrHandle
		}
		for p := range 6 {
			image := slices.Clone(all)
			image[p] = corrupt()
			want := p + 1
			if h == p {
				want = 0
			}
			check(t, want, with(base, of(0, oWrite(h, 0, "w"), fails(code), 90, 91, 92)), 6, 1, image...)
			check(t, want, with(base, of(0, oWrite(h, 0, "w"), fails(0), 90, 0, 0)), 6, 1, image...)
		}
	}
}

// 22.2: above the Stamp of the flush, not at it; by Stamps, whatever the places.
func TestCorruptByStamps(t *testing.T) {
	l := []api.Event{
		of(0, oNew(), pinned(0, 0), 1, 1, 1),
		of(0, oWrite(0, 0, "a"), done(), 2, 0, 20),
		of(1, oFlush(0), done(), 2, 10, 20),
	}
	for stamp := 2; stamp <= 20; stamp++ {
		l[1].Stamp = stamp
		want := 1
		if stamp > 10 {
			want = 0
		}
		check(t, want, l, 1, 2, corrupt())
		check(t, want, []api.Event{l[0], l[2], l[1]}, 1, 2, corrupt())
	}
	// the page was made at the flush's own Stamp, ahead of it by its place
	l = []api.Event{of(0, oNew(), pinned(0, 0), 1, 5, 9), of(1, oFlush(0), done(), 1, 5, 9)}
	check(t, 1, l, 1, 2, corrupt())
	l[0].Stamp = 4
	check(t, 1, l, 1, 2, corrupt())
	l[1] = of(1, oFlush(0), fails(api.ErrNone), 1, 3, 9)
	check(t, 0, l, 1, 2, corrupt())
}

// 22.2: a body that the page had at its last flush, or behind it.
func TestBody(t *testing.T) {
	l := turn(oNew(), oWrite(0, 0, repeat("a", 16)), oFlush(0), oWrite(0, 0, repeat("b", 16)), oWrite(0, 0, repeat("c", 16)), oFlush(0), oWrite(0, 0, repeat("d", 16)), oUnpin(0), oDelete(0), oNew(), oWrite(0, 0, repeat("e", 16)))
	may := []string{"", "z", "za", "a", "ab", "abc", "c", "cd", "cd", "cd", "cdz", "cdze"} // of z: zeros
	for n, letters := range may {
		for _, c := range "abcdefz" {
			s := repeat(string(c), 16)
			if c == 'z' {
				s = ""
			}
			want := 1
			if bytes.ContainsRune([]byte(letters), c) {
				want = 0
			}
			check(t, want, l[:n], 1, 1, image(0, s))
		}
	}
}

// 22.2: what a page that is not there has (zeros) is nothing that it had.
func TestBodyNotThere(t *testing.T) {
	check(t, 1, nil, 1, 1, image(0, ""))
	check(t, 2, turn(oNew(), oFlushAll()), 2, 1, image(0, ""), image(1, ""))
	l := turn(oNew(), oWrite(0, 0, "a"), oFlush(0), oUnpin(0), oDelete(0), oFlushAll(), oNew(), oWrite(0, 0, "b"))
	for n := 3; n <= 8; n++ {
		check(t, 0, l[:n], 1, 1, image(0, "a"))
		want := 1
		if n > 6 {
			want = 0
		}
		check(t, want, l[:n], 1, 1, image(0, ""))
	}
	// nor are its halves
	l = turn(oNew(), oWrite(0, 0, repeat("a", 16)), oFlush(0), oUnpin(0), oDelete(0), oFlushAll())
	check(t, 1, l, 1, 1, image(0, "aaaa"))
	check(t, 1, l, 1, 1, image(0, "\x00\x00\x00\x00aaaaaaaaaaaa"))
	check(t, 0, l, 1, 1, image(0, repeat("a", 16)))
	// what did not take effect, or failed, is nothing that a page had
	w := with(l[:3], of(0, oWrite(0, 0, repeat("q", 16)), done(), 90, 0, 0))
	check(t, 1, w, 1, 1, image(0, repeat("q", 16)))
	w[3].Stamp = 91
	check(t, 0, w, 1, 1, image(0, repeat("q", 16)))
	check(t, 1, told(turn(oNew()), 0, fails(api.ErrFull)), 1, 1, image(0, ""))
	check(t, 1, []api.Event{of(0, oNew(), pinned(0, 0), 1, 0, 0)}, 1, 1, image(0, ""))
	check(t, 0, []api.Event{of(0, oNew(), fails(9), 1, 1, 0)}, 1, 1, image(0, ""))
	check(t, 1, turn(oNew(), oFlushAll(), oWrite(0, 9, "too long")), 1, 1, image(0, "\x00\x00\x00\x00\x00\x00\x00\x00\x00too lon"))
}

// 22.2: the first 4 bytes, and the last 12, of one body or of two: the device tears there, and nowhere else.
func TestBodyParts(t *testing.T) {
	a, b := repeat("a", 16), repeat("b", 16)
	l := turn(oNew(), oWrite(0, 0, a), oFlush(0), oWrite(0, 0, b))
	for at := range 17 {
		want := 1
		if at == 0 || at == 4 || at == 16 {
			want = 0
		}
		check(t, want, l, 1, 1, image(0, a[:at]+b[at:]))
		check(t, want, l, 1, 1, image(0, b[:at]+a[at:]))
		check(t, min(at%16, 1), l[:3], 1, 1, image(0, b[:at%16]+a[at%16:]))
	}
	for at := range 16 { // each byte is asked
		s := []byte(b)
		s[at] = 'x'
		check(t, 1, l, 1, 1, image(0, string(s)))
		s[at] = 'a'
		check(t, 1, l, 1, 1, image(0, string(s)))
	}
}

// 22.2: both parts are of what the page had at its flush or behind it: of any two such bodies, never of one ahead, nor of another page's.
func TestBodyOfTwo(t *testing.T) {
	ops := []api.Op{oNew(), oNew()}
	for _, c := range "pqr" {
		ops = append(ops, oWrite(0, 0, repeat(string(c), 16)), oWrite(1, 0, repeat(string(c+10), 16)))
		if c == 'q' {
			ops = append(ops, oFlush(0))
		}
	}
	l := turn(append(ops, oUnpin(0), oDelete(0), oNew(), oWrite(0, 0, repeat("s", 16)))...)
	letters := "pqrsz{|x" // of x: zeros
	for _, head := range letters {
		for _, tail := range letters {
			s := bytes.ReplaceAll([]byte(repeat(string(head), 4)+repeat(string(tail), 12)), []byte("x"), []byte{0})
			want := 1
			if bytes.ContainsRune([]byte("qrsx"), head) && bytes.ContainsRune([]byte("qrsx"), tail) {
				want = 0
			}
			check(t, want, l, 2, 1, image(0, string(s)), image(1, repeat("z", 16)))
		}
	}
}

// 22.2: not below the Stamp of the flush: what the page had at the same Stamp counts, on whichever side of the flush; by Stamps, whatever the places.
func TestBodyByStamps(t *testing.T) {
	l := []api.Event{
		of(0, oNew(), pinned(0, 0), 1, 1, 1),
		of(0, oWrite(0, 0, "a"), done(), 2, 2, 3),
		of(0, oWrite(0, 0, "b"), done(), 4, 0, 20),
		of(1, oFlush(0), done(), 5, 10, 20),
		of(2, oFetch(0), pinned(0, 0), 6, 11, 12),
	}
	for stamp := 4; stamp <= 20; stamp++ {
		l[2].Stamp = stamp
		a, b := 0, 0
		if stamp <= 10 { // ahead of the flush
			a = 1
		}
		check(t, a, l, 1, 3, image(0, "a"))
		check(t, b, l, 1, 3, image(0, "b"))
		check(t, 1, l, 1, 3, image(0, ""))
	}
	// of one Stamp with the flush: the write behind it by its place
	l[2], l[3] = l[3], l[2]
	l[2].Begin, l[3].Begin, l[3].Stamp = 4, 5, 10
	check(t, 0, l, 1, 3, image(0, "a"))
	check(t, 0, l, 1, 3, image(0, "b"))
	check(t, 1, l, 1, 3, image(0, ""))
	// and two ahead of it: what it had between them counts, too
	l = []api.Event{
		of(0, oNew(), pinned(0, 0), 1, 1, 1),
		of(1, oFetch(0), pinned(0, 0), 2, 2, 2),
		of(0, oWrite(0, 0, "a"), done(), 3, 7, 9),
		of(1, oWrite(0, 0, "b"), done(), 4, 7, 9),
		of(2, oFlushAll(), done(), 5, 7, 9),
	}
	for s, want := range map[string]int{"a": 0, "b": 0, "": 1, "c": 1} {
		check(t, want, l, 1, 3, image(0, s))
	}
	l[4].Stamp = 8
	for s, want := range map[string]int{"a": 1, "b": 0, "": 1, "c": 1} {
		check(t, want, l, 1, 3, image(0, s))
	}
}

// 22.2: a real tear whose sum is right by chance: neither body, but half of each. (Page_test tells how the two were found.)
func TestTornByChance(t *testing.T) {
	now := []byte("sixteen bytes !!")
	was := bytes.Clone(now)
	was[0] ^= 0xFF
	for i, c := range []byte{0x01, 0xA5, 0xC6, 0x59, 0x3A} {
		was[6+i] ^= c
	}
	for _, x := range []struct {
		first, last []byte
		bits        byte
	}{{was, now, 2}, {now, was, 3}} {
		r := ref.New(10, 1, 1)
		l := []api.Event{}
		do := func(op api.Op) {
			n := len(l) + 1
			l = append(l, of(0, op, r.Do(0, op), n, n, n))
		}
		for range 10 { // one frame, so that each but the last goes to the device at once
			do(oNew())
			do(oWrite(0, 0, string(x.first)))
			do(oUnpin(0))
		}
		do(oFlushAll())
		do(oFetch(9))
		do(oWrite(0, 0, string(x.last)))
		do(oUnpin(0))
		do(oFetch(0))
		if w := r.Disk().Waits(); !slices.Equal(w, []int{9}) {
			t.Fatal(w)
		}
		r.Disk().Crash([]byte{x.bits})
		body, code := page.Open(9, r.Disk().Durable()[9])
		if code != api.OK || bytes.Equal(body, was) || bytes.Equal(body, now) {
			t.Fatal("it is told", code, body)
		}
		check(t, 0, l, 10, 1, r.Disk().Durable()...)
	}
}

// clock gives each client's calls their times, at random: what took effect, what ended, and a few that have not.
func clock(c *rand.Rand, clients, calls int) []api.Event {
	var l []api.Event
	at := make([]int, clients) // of each client its call under way, from 1 on
	now := 1
	for len(l) < calls {
		now += c.Intn(2)
		k := c.Intn(clients)
		switch e := at[k]; {
		case e == 0:
			l = append(l, api.Event{Client: k, Begin: now})
			at[k] = len(l)
		case l[e-1].Stamp == 0:
			l[e-1].Stamp = now
		case l[e-1].End == 0:
			l[e-1].End = now
			at[k] = 0
			now++ // the next one of that client begins behind it
		}
	}
	return l
}

// texts are what is written: in all parts of a page.
func text(c *rand.Rand) (int, string) {
	s := string([]byte{"abc"[c.Intn(3)]})
	switch c.Intn(6) {
	case 0, 1:
		return 0, repeat(s, 16)
	case 2:
		return 0, repeat(s, 4)
	case 3:
		return 4, repeat(s, 12)
	case 4:
		return c.Intn(16), s
	}
	return c.Intn(18) - 1, repeat(s, c.Intn(4))
}

// chance is a call at random.
func chance(c *rand.Rand, pages int) api.Op {
	p, h := c.Intn(pages+1), c.Intn(3)
	switch c.Intn(14) {
	case 0, 1:
		return oNew()
	case 2:
		return oFetch(p)
	case 3:
		return oUnpin(h)
	case 4:
		return oDelete(p)
	case 5, 6:
		return oFlush(p)
	case 7:
		return oFlushAll()
	case 8:
		return oRead(h, 0, 16)
	case 9:
		return api.Op{Kind: c.Intn(12) - 1, Page: p, Handle: h}
	}
	off, s := text(c)
	return oWrite(h, off, s)
}

// life is a right history at random: its answers are the model's, now and then a failure's.
func life(c *rand.Rand, pages, clients, calls int) []api.Event {
	l := clock(c, clients, calls)
	for at := range l {
		l[at].Op = chance(c, pages)
	}
	s := model.New(pages, clients)
	for _, at := range hist.Order(l) {
		e := &l[at]
		next, r := model.Do(s, e.Client, e.Op)
		bad := []int{api.ErrIO, api.ErrFull, api.ErrCorrupt}[c.Intn(3)]
		switch {
		case e.End == 0:
			s = next
			e.Res = []api.Res{r, {}, {Code: bad}, {Code: 77, Page: 1}}[c.Intn(4)] // it is not asked
		case hist.Bad(e.Op, bad) && c.Intn(5) == 0:
			e.Res = fails(bad)
		default:
			s, e.Res = next, r
		}
	}
	return l
}

// candidates are images of a page: what it had at all times, and ahead of them, in all parts, torn ones, and others.
func candidates(x plain, p int) [][]byte {
	bodies := map[string]bool{repeat("a", 16): true, repeat("\x00", 16): true, "other": true}
	for _, s := range x.behind {
		bodies[string(s.Body[p])] = true
	}
	var all [][]byte
	for s := range bodies {
		all = append(all, body(s))
	}
	slices.SortFunc(all, bytes.Compare)
	images := [][]byte{page.Blank(), corrupt(), nil, make([]byte, 23), image((p+1)%48, "a")}
	for k, a := range all {
		b := all[(k+1)%len(all)]
		d := all[(k*7+3)%len(all)]
		images = append(images, image(p, string(a)), image(p, string(a[:4])+string(b[4:])), image(p, string(b[:4])+string(a[4:])), image(p, string(a[:4])+string(d[4:])), image(p, string(a[:5])+string(b[5:])),
			parted(image(p, string(a)), image(p, string(b))))
	}
	return images
}

// 22.1, 22.2: lives at random, with calls side by side, of one Stamp, under way and failed, held against the chapter told anew: each page with all kinds of images, while the others may be so.
func TestLives(t *testing.T) {
	tally := map[int]int{}
	for seed := range 700 {
		c := rand.New(rand.NewSource(int64(seed)))
		pages, clients := 1+c.Intn(3), 1+c.Intn(3)
		l := life(c, pages, clients, 4+c.Intn(30))
		x := tell(l, pages, clients)
		if !x.right {
			t.Fatal("a life is wrong:", hist.Check(l, pages, clients))
		}
		base := make([][]byte, pages) // what may be
		for p := range pages {
			n := wreck.Flushed(l, pages, clients, p)
			if want := x.flushed(p); n != want {
				t.Fatalf("Flushed(%v, %d, %d, %d) = %d, want %d", l, pages, clients, p, n, want)
			}
			base[p] = page.Blank()
			for k, at := range x.order {
				if n > 0 && l[at].Stamp == n && x.behind[k].There[p] {
					base[p] = image(p, string(x.behind[k].Body[p]))
				}
			}
		}
		if n := wreck.Check(l, pages, clients, base); n != 0 {
			t.Fatalf("Check(%v) of what was flushed: %d", l, n)
		}
		for p := range pages {
			for _, b := range candidates(x, p) {
				all := slices.Clone(base)
				all[p] = b
				want := 0
				if !x.may(p, b) {
					want = p + 1
				}
				if got := wreck.Check(l, pages, clients, all); got != want {
					t.Fatalf("Check(%v, %d, %d, %x) = %d, want %d", l, pages, clients, all, got, want)
				}
				_, code := page.Open(p, b)
				tally[10*code+min(want, 1)]++
			}
		}
	}
	for _, code := range []int{api.OK, api.ErrBlank, api.ErrCorrupt} {
		if tally[10*code] < 100 || tally[10*code+1] < 100 {
			t.Fatal("seldom", code, tally)
		}
	}
}

// 22.2: whole images at random, all pages at once.
func TestImages(t *testing.T) {
	tally := map[int]int{}
	for seed := range 300 {
		c := rand.New(rand.NewSource(int64(seed)))
		pages, clients := 1+c.Intn(4), 1+c.Intn(3)
		x := tell(life(c, pages, clients, 4+c.Intn(24)), pages, clients)
		for range 20 {
			var all [][]byte
			for p := range pages + c.Intn(20)/19 {
				some := candidates(x, min(p, pages-1))
				all = append(all, some[c.Intn(len(some))])
			}
			want := x.check(pages, all)
			if got := wreck.Check(x.l, pages, clients, all); got != want {
				t.Fatalf("Check(%v, %d, %d, %x) = %d, want %d", x.l, pages, clients, all, got, want)
			}
			tally[want]++
		}
	}
	for want := -1; want <= 3; want++ {
		if tally[want] < 20 {
			t.Fatal("seldom", want, tally)
		}
	}
}

// All histories of a page of up to four calls from a few, with each kind of image.
func TestAllHistories(t *testing.T) {
	some := []api.Op{oNew(), oWrite(0, 0, repeat("a", 16)), oWrite(0, 0, "bbbb"), oFlush(0), oFlushAll(), oUnpin(0), oDelete(0)}
	images := [][]byte{page.Blank(), corrupt(), image(0, ""), image(0, repeat("a", 16)), image(0, "bbbbaaaaaaaaaaaa"), image(0, "bbbb"), image(0, "aaaa"), image(0, "b")}
	var all func(ops []api.Op)
	all = func(ops []api.Op) {
		full := turn(ops...)
		histories := [][]api.Event{full}
		if len(ops) > 0 {
			last := len(ops) - 1
			begun := open(full)
			begun[last].Stamp = 0
			histories = append(histories, open(full), begun)
			if hist.Bad(ops[last], api.ErrIO) {
				histories = append(histories, told(full, last, fails(api.ErrIO)))
			}
		}
		for _, l := range histories {
			x := tell(l, 1, 1)
			if got := wreck.Flushed(l, 1, 1, 0); got != x.flushed(0) {
				t.Fatalf("Flushed(%v) = %d, want %d", l, got, x.flushed(0))
			}
			for _, b := range images {
				if got, want := wreck.Check(l, 1, 1, [][]byte{b}), x.check(1, [][]byte{b}); got != want {
					t.Fatalf("Check(%v, %x) = %d, want %d", l, b, got, want)
				}
			}
		}
		if len(ops) == 4 {
			return
		}
		for _, op := range some {
			if len(ops) == 0 && op.Kind != api.ONew && op.Kind != api.OFlushAll {
				continue // nothing comes of it
			}
			all(append(slices.Clone(ops), op))
		}
	}
	all(nil)
}

// step has the small pool do a call, and is the history with it.
func step(r *ref.Ref, l []api.Event, client int, op api.Op) []api.Event {
	n := len(l) + 1
	return append(l, of(client, op, r.Do(client, op), n, n, n))
}

// rush is a call at random of such as have pages come and go, so that many wait on the device.
func rush(c *rand.Rand, pages int) api.Op {
	switch n := c.Intn(20); {
	case n < 4:
		return oNew()
	case n < 8:
		return oFetch(c.Intn(pages))
	case n < 13:
		return oUnpin(c.Intn(2))
	case n < 18:
		off, s := text(c)
		return oWrite(c.Intn(2), off, s)
	}
	return chance(c, pages)
}

// pool is a small pool that has done calls at random, with failures of its device.
func pool(c *rand.Rand, pages, clients, frames, calls int) (*ref.Ref, []api.Event) {
	r := ref.New(pages, clients, frames)
	var l []api.Event
	for range calls {
		if c.Intn(9) == 0 {
			r.Disk().Fail(c.Intn(4))
		}
		l = step(r, l, c.Intn(clients), rush(c, pages))
	}
	return r, l
}

// T3, 22.3: whatever the small pool did, what its device has may be so; and so it may behind each crash that there can be.
func TestCrashes(t *testing.T) {
	crashes, torn, whole := 0, 0, 0
	for seed := range 300 {
		c := rand.New(rand.NewSource(int64(seed)))
		pages, clients, frames := 1+c.Intn(4), 1+c.Intn(3), 1+c.Intn(2)
		calls, again := 1+c.Intn(60), c.Int63()
		r, l := pool(rand.New(rand.NewSource(again)), pages, clients, frames, calls)
		check(t, 0, l, pages, clients, r.Disk().Durable()...)
		for bits := range 1 << (2 * len(r.Disk().Waits())) {
			r, l := pool(rand.New(rand.NewSource(again)), pages, clients, frames, calls)
			r.Disk().Crash([]byte{byte(bits)})
			crashes++
			check(t, 0, l, pages, clients, r.Disk().Durable()...)
			for p, b := range r.Disk().Durable() {
				switch _, code := page.Open(p, b); code {
				case api.ErrCorrupt:
					torn++
				case api.OK:
					whole++
				}
			}
			l = step(r, l, 0, oNew()) // calls go on, and fail or change what only the frames have
			l = step(r, l, 0, oWrite(0, 0, "x"))
			l = step(r, l, 0, oFlushAll())
			check(t, 0, l, pages, clients, r.Disk().Durable()...)
		}
	}
	if crashes < 600 || torn < 200 || whole < 200 {
		t.Fatal("seldom", crashes, torn, whole)
	}
}

// T3 at each step of long lives.
func TestEachStep(t *testing.T) {
	for seed := range 12 {
		c := rand.New(rand.NewSource(int64(seed)))
		pages, clients := 2+c.Intn(5), 1+c.Intn(4)
		r := ref.New(pages, clients, 1+c.Intn(4))
		var l []api.Event
		for range 120 {
			if c.Intn(9) == 0 {
				r.Disk().Fail(1 + c.Intn(3))
			}
			l = step(r, l, c.Intn(clients), chance(c, pages))
			if n := wreck.Check(l, pages, clients, r.Disk().Durable()); n != 0 {
				t.Fatalf("seed %d, %d calls: page %d", seed, len(l), n-1)
			}
		}
	}
}

// 22.3: what was flushed is there: a device that lost a page behind its flush, has it as it was ahead, or as it never was, is told.
func TestLost(t *testing.T) {
	told := 0
	for seed := range 150 {
		c := rand.New(rand.NewSource(int64(seed)))
		pages, clients := 1+c.Intn(4), 1+c.Intn(3)
		r := ref.New(pages, clients, 1+c.Intn(3))
		var l []api.Event
		for range 60 {
			before := r.Disk().Durable()
			l = step(r, l, c.Intn(clients), chance(c, pages))
			e := l[len(l)-1]
			if e.Res.Code != 0 || e.Op.Kind != api.OFlush && e.Op.Kind != api.OFlushAll {
				continue
			}
			now := r.Disk().Durable()
			for _, p := range r.There() {
				if e.Op.Kind == api.OFlush && e.Op.Page != p {
					continue
				}
				never := bytes.Clone(now[p])
				never[20] ^= 1
				for _, b := range [][]byte{page.Blank(), before[p], never, parted(before[p], now[p]), parted(now[p], before[p]), image(p, "never")} {
					if bytes.Equal(b, now[p]) {
						continue
					}
					all := slices.Clone(now)
					all[p] = b
					check(t, p+1, l, pages, clients, all...)
					told++
				}
			}
		}
	}
	if told < 1000 {
		t.Fatal("seldom", told)
	}
}

// T3 of a bare device: all crashes of two pages that wait, held against what was done by then, and against a flush that told of them too early.
func TestDevice(t *testing.T) {
	a, b, z := repeat("a", 16), repeat("b", 16), repeat("z", 16)
	l := turn(oNew(), oNew(), oWrite(0, 0, a), oWrite(1, 0, z), oFlush(0), oWrite(0, 0, b), oFlushAll())
	for bits := range 16 {
		d := disk.New(2)
		d.Write(0, image(0, a))
		d.Sync()
		d.Write(0, image(0, b))
		d.Write(1, image(1, z))
		d.Crash([]byte{byte(bits)})
		first, second := bits&3, bits>>2
		for n, want := range map[int][]int{
			// page 0 is a, b, torn, torn; page 1 blank, z, torn, torn
			2: {1, 1, 0, 0, 0, 2, 0, 0},
			3: {0, 1, 0, 0, 0, 2, 0, 0},
			4: {0, 1, 0, 0, 0, 0, 0, 0},
			5: {0, 1, 1, 1, 0, 0, 0, 0},
			6: {0, 0, 0, 0, 0, 0, 0, 0},
			7: {1, 0, 1, 1, 2, 0, 2, 2},
		} {
			w := want[first]
			if w == 0 {
				w = want[4+second]
			}
			check(t, w, l[:n], 2, 1, d.Durable()...)
		}
	}
}

// Rules 1 and 5: all arguments end; wild numbers in calls under way.
func TestEnds(t *testing.T) {
	for _, n := range ends {
		for _, kind := range []int{n, api.ONew, api.OFetch, api.ORead, api.OWrite, api.OUnpin, api.OFlush, api.OFlushAll, api.ODelete} {
			op := api.Op{Kind: kind, Page: n, Handle: n, Off: n, N: n}
			for _, stamp := range []int{0, 30, math.MaxInt} {
				l := with(turn(oNew(), oFlushAll()), of(0, op, api.Res{Code: n, Page: n, Handle: n, Data: []byte("x")}, 30, stamp, 0))
				all := [][]byte{image(0, ""), page.Blank()}
				check(t, 0, l, 2, 1, all...)
				if wreck.Flushed(l, 2, 1, 0) != 20 || wreck.Flushed(l, 2, 1, n) != 0 {
					t.Fatal("Flushed", n, kind)
				}
				all[0] = corrupt()
				check(t, 1, l, 2, 1, all...)
			}
		}
		e := of(n, oWrite(n, n, ""), done(), n, n, n)
		wreck.Check([]api.Event{e}, n, n, blanks(2))
		wreck.Check([]api.Event{e}, 2, 1, blanks(2))
		wreck.Flushed([]api.Event{e}, 2, 1, n)
	}
}

// Rules 2 and 3: nothing is kept: other calls between, and lists that change behind a call, make no difference.
func TestAgain(t *testing.T) {
	l := turn(oNew(), oWrite(0, 0, "a"), oFlush(0), oWrite(0, 0, "b"))
	all := [][]byte{image(0, "b")}
	check(t, 0, l, 1, 1, all...)
	l[3].Op.Data[0] = 'c'
	check(t, 1, l, 1, 1, all...)
	all[0] = image(0, "c")
	check(t, 0, l, 1, 1, all...)
	all[0][9] ^= 1
	check(t, 0, l, 1, 1, all...) // torn
	check(t, 1, l[:3], 1, 1, all...)
	check(t, 0, nil, 1, 1, page.Blank())
	flushed(t, l[:2], 1, 1, 0)
	flushed(t, l, 1, 1, 30)
	check(t, 0, l, 1, 1, image(0, "a"))
	// one memory for all
	b := make([]byte, 24)
	check(t, 0, nil, 3, 1, b, b, b)
	d := []byte("aaaa")
	w := turn(oNew(), oNew())
	w = append(w, of(0, api.Op{Kind: api.OWrite, Data: d}, done(), 90, 90, 90), of(0, api.Op{Kind: api.OWrite, Handle: 1, Data: d}, done(), 91, 91, 91))
	check(t, 0, w, 2, 1, image(0, "aaaa"), image(1, "aaaa"))
}

// All pages and clients that there can be.
func TestMost(t *testing.T) {
	r := ref.New(48, 6, 7)
	var l []api.Event
	for p := range 48 {
		l = step(r, l, p%6, oNew())
		l = step(r, l, p%6, oWrite(0, 0, repeat(string(rune('0'+p)), 16)))
		l = step(r, l, p%6, oUnpin(0))
	}
	check(t, 0, l, 48, 6, r.Disk().Durable()...)
	check(t, 0, l, 48, 6, blanks(48)...)
	l = step(r, l, 0, oFlushAll())
	check(t, 0, l, 48, 6, r.Disk().Durable()...)
	check(t, 1, l, 48, 6, blanks(48)...)
	for p := range 48 {
		if n := wreck.Flushed(l, 48, 6, p); n != 145 {
			t.Fatal(p, n)
		}
		all := r.Disk().Durable()
		all[p] = page.Blank()
		check(t, p+1, l, 48, 6, all...)
	}
}

// A long history takes its time once, not for each page or event anew.
func TestLong(t *testing.T) {
	ops := []api.Op{}
	for range 48 {
		ops = append(ops, oNew(), oUnpin(0))
	}
	ops = append(ops, oFetch(47))
	for range 5000 {
		ops = append(ops, oWrite(0, 0, "a"), oWrite(0, 0, "b"), oFlush(47))
	}
	ops = append(ops, oWrite(0, 0, "c"))
	l := turn(ops...)
	all := blanks(48)
	for s, want := range map[string]int{"b": 0, "c": 0, "a": 48} {
		all[47] = image(47, s)
		if got := wreck.Check(l, 48, 1, all); got != want {
			t.Fatal(s, got)
		}
	}
	if n := wreck.Flushed(l, 48, 1, 47); n != 10*(len(ops)-1) {
		t.Fatal(n)
	}
}
