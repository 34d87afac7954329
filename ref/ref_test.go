package ref_test

import (
	"bytes"
	"math"
	"math/rand"
	"slices"
	"testing"

	"lavabo/api"
	"lavabo/disk"
	"lavabo/hist"
	"lavabo/model"
	"lavabo/page"
	"lavabo/ref"
	"lavabo/script"
)

// nothings are numbers of no page, client or handle: next to the edges, and where a narrower kind of number would wrap round.
var nothings = []int{-1, -2, -6, -48, -256, 48, 49, 63, 64, 127, 128, 255, 256, 257, 1024, 1 << 16, 1<<32 - 1, 1 << 32, 1<<32 + 1, -1 << 32, -1<<32 + 1, math.MaxInt32, math.MinInt32, math.MaxInt - 1, math.MaxInt, math.MinInt, math.MinInt + 1}

// Short words for the calls.
func create() api.Op            { return api.Op{Kind: api.ONew} }
func fetch(p int) api.Op        { return api.Op{Kind: api.OFetch, Page: p} }
func read(h, off, n int) api.Op { return api.Op{Kind: api.ORead, Handle: h, Off: off, N: n} }
func write(h, off int, text string) api.Op {
	return api.Op{Kind: api.OWrite, Handle: h, Off: off, Data: []byte(text)}
}
func unpin(h int) api.Op  { return api.Op{Kind: api.OUnpin, Handle: h} }
func flush(p int) api.Op  { return api.Op{Kind: api.OFlush, Page: p} }
func flushAll() api.Op    { return api.Op{Kind: api.OFlushAll} }
func remove(p int) api.Op { return api.Op{Kind: api.ODelete, Page: p} }

// box is a frame of a plain pool.
type box struct {
	page, pins int
	dirty      bool
	body       []byte
}

// plain is a small pool told anew from 16.1 and 16.2: the model says what a call tells, and what is told of frames is done with boxes, above a device that has tests of its own.
type plain struct {
	state api.State
	disk  *disk.Disk
	boxes []box
	free  []int // the one that was free longest is the first
	order []int // boxes, the one that was used last is the first
}

func newPlain(pages, clients, frames int) *plain {
	p := &plain{state: model.New(pages, clients), disk: disk.New(pages)}
	for f := range frames {
		p.boxes = append(p.boxes, box{page: -1})
		p.free = append(p.free, f)
	}
	return p
}

// at is the box of a page, -1 of none.
func (p *plain) at(page int) int {
	return slices.IndexFunc(p.boxes, func(b box) bool { return b.page == page })
}

// leave takes a box out of the order.
func (p *plain) leave(f int) {
	p.order = slices.DeleteFunc(p.order, func(g int) bool { return g == f })
}

func (p *plain) front(f int) {
	p.leave(f)
	p.order = slices.Insert(p.order, 0, f)
}

func (p *plain) drop(f int) {
	p.boxes[f] = box{page: -1}
	p.free = append(p.free, f)
	p.leave(f)
}

// put writes a box that is dirty.
func (p *plain) put(f int) int {
	b := &p.boxes[f]
	if !b.dirty {
		return 0
	}
	image, _ := page.Seal(b.page, b.body)
	if p.disk.Write(b.page, image) != 0 {
		return api.ErrIO
	}
	b.dirty = false
	return 0
}

func (p *plain) sync() int {
	if p.disk.Sync() != 0 {
		return api.ErrIO
	}
	return 0
}

// room has a page have a box at the front.
func (p *plain) room(page int) (int, int) {
	if len(p.free) == 0 {
		victim := -1
		for _, f := range p.order {
			if p.boxes[f].pins == 0 {
				victim = f // the last one that is met stays
			}
		}
		if victim < 0 {
			return -1, api.ErrFull
		}
		if code := p.put(victim); code != 0 {
			return -1, code
		}
		p.drop(victim)
	}
	f := p.free[0]
	p.free = p.free[1:]
	p.boxes[f] = box{page: page, body: make([]byte, 16)}
	p.front(f)
	return f, 0
}

// bring has a page that is there be in a box at the front.
func (p *plain) bring(id int) (int, int) {
	if f := p.at(id); f >= 0 {
		p.front(f)
		return f, 0
	}
	f, code := p.room(id)
	if code != 0 {
		return -1, code
	}
	image, code := p.disk.Read(id)
	if code != 0 {
		p.drop(f)
		return -1, api.ErrIO
	}
	body, code := page.Open(id, image)
	if code == api.ErrCorrupt {
		p.drop(f)
		return -1, code
	}
	copy(p.boxes[f].body, body)
	return f, 0
}

// all writes the boxes that are dirty, by pages, until one can't be.
func (p *plain) all() int {
	for id := range p.state.There {
		if f := p.at(id); f >= 0 {
			if code := p.put(f); code != 0 {
				return code
			}
		}
	}
	return p.sync()
}

// do makes a call: where the model tells an error, that is all.
func (p *plain) do(client int, op api.Op) api.Res {
	next, res := model.Do(p.state, client, op)
	if res.Code != 0 {
		return res
	}
	f, code := -1, 0
	switch op.Kind {
	case api.ONew:
		if f, code = p.room(res.Page); code == 0 {
			p.boxes[f].dirty = true
			p.boxes[f].pins++
		}
	case api.OFetch:
		if f, code = p.bring(res.Page); code == 0 {
			p.boxes[f].pins++
		}
	case api.ORead:
		f = p.at(p.state.Handles[client][op.Handle])
		p.front(f)
		res.Data = slices.Clone(p.boxes[f].body[op.Off : op.Off+op.N])
	case api.OWrite:
		f = p.at(p.state.Handles[client][op.Handle])
		p.front(f)
		copy(p.boxes[f].body[op.Off:], op.Data)
		p.boxes[f].dirty = true
	case api.OUnpin:
		p.boxes[p.at(p.state.Handles[client][op.Handle])].pins--
	case api.OFlush:
		if f = p.at(op.Page); f >= 0 {
			code = p.put(f)
		}
		if code == 0 {
			code = p.sync()
		}
	case api.OFlushAll:
		code = p.all()
	case api.ODelete:
		if f = p.at(op.Page); f >= 0 {
			p.drop(f)
		}
	}
	if code != 0 {
		return api.Res{Code: code}
	}
	p.state = next
	return res
}

func (p *plain) frames() []api.Frame {
	var l []api.Frame
	for _, b := range p.boxes {
		x := api.Frame{Page: b.page, Pins: b.pins, Dirty: b.dirty}
		if b.page >= 0 {
			x.State = api.FUsed
		}
		l = append(l, x)
	}
	return l
}

func (p *plain) pages() []int {
	var l []int
	for _, f := range p.order {
		l = append(l, p.boxes[f].page)
	}
	return l
}

func (p *plain) there() []int {
	var l []int
	for id, is := range p.state.There {
		if is {
			l = append(l, id)
		}
	}
	return l
}

// pair is a small pool and a plain one to which the same is done.
type pair struct {
	t *testing.T
	r *ref.Ref
	p *plain
}

func newPair(t *testing.T, pages, clients, frames int) pair {
	t.Helper()
	r := ref.New(pages, clients, frames)
	if r == nil {
		t.Fatalf("New(%d, %d, %d) is nil", pages, clients, frames)
	}
	x := pair{t, r, newPlain(pages, clients, frames)}
	x.stands()
	return x
}

// stands asks all that may be asked without a call.
func (x pair) stands() {
	x.t.Helper()
	if got, want := x.r.Frames(), x.p.frames(); !slices.Equal(got, want) {
		x.t.Fatalf("Frames() = %v, want %v", got, want)
	}
	if got, want := x.r.Order(), x.p.pages(); !slices.Equal(got, want) {
		x.t.Fatalf("Order() = %v, want %v", got, want)
	}
	if got, want := x.r.There(), x.p.there(); !slices.Equal(got, want) {
		x.t.Fatalf("There() = %v, want %v", got, want)
	}
	d, e := x.r.Disk(), x.p.disk
	if !slices.Equal(d.Waits(), e.Waits()) || d.Accesses() != e.Accesses() {
		x.t.Fatalf("the device: waits %v, %d accesses, want %v, %d", d.Waits(), d.Accesses(), e.Waits(), e.Accesses())
	}
	if got, want := d.Durable(), e.Durable(); !slices.EqualFunc(got, want, bytes.Equal) {
		x.t.Fatalf("the device has %v, want %v", got, want)
	}
}

// call has both make a call, and is what it told.
func (x pair) call(client int, op api.Op) api.Res {
	x.t.Helper()
	want := x.p.do(client, op)
	got := x.r.Do(client, op)
	if !model.SameRes(got, want) {
		x.t.Fatalf("Do(%d, %+v) = %+v, want %+v", client, op, got, want)
	}
	x.stands()
	return got
}

// do has both make a call that tells that code.
func (x pair) do(client int, op api.Op, code int) {
	x.t.Helper()
	if got := x.call(client, op); got.Code != code {
		x.t.Fatalf("Do(%d, %+v) = %+v, want code %d", client, op, got, code)
	}
}

// gets has both make a call that tells a page and a handle.
func (x pair) gets(client int, op api.Op, page, handle int) {
	x.t.Helper()
	if got := x.call(client, op); got.Code != 0 || got.Page != page || got.Handle != handle || len(got.Data) != 0 {
		x.t.Fatalf("Do(%d, %+v) = %+v, want page %d, handle %d", client, op, got, page, handle)
	}
}

// reads has both make an ORead that tells that text.
func (x pair) reads(client int, op api.Op, text string) {
	x.t.Helper()
	if got := x.call(client, op); got.Code != 0 || got.Page != 0 || got.Handle != 0 || string(got.Data) != text {
		x.t.Fatalf("Do(%d, %+v) = %+v, want %q", client, op, got, text)
	}
}

func (x pair) order(pages ...int) {
	x.t.Helper()
	if got := x.r.Order(); !slices.Equal(got, pages) {
		x.t.Fatalf("Order() = %v, want %v", got, pages)
	}
}

func (x pair) there(pages ...int) {
	x.t.Helper()
	if got := x.r.There(); !slices.Equal(got, pages) {
		x.t.Fatalf("There() = %v, want %v", got, pages)
	}
}

// device is how many accesses there were, and which pages wait.
func (x pair) device(accesses int, waits ...int) {
	x.t.Helper()
	if got := x.r.Disk().Accesses(); got != accesses {
		x.t.Fatalf("%d accesses, want %d", got, accesses)
	}
	if got := x.r.Disk().Waits(); !slices.Equal(got, waits) {
		x.t.Fatalf("%v wait, want %v", got, waits)
	}
}

// holds is that the frames have these pages (-1: free), those in dirty are dirty.
func (x pair) holds(pages []int, dirty ...int) {
	x.t.Helper()
	var got, marked []int
	for _, f := range x.r.Frames() {
		got = append(got, f.Page)
		if f.Dirty {
			marked = append(marked, f.Page)
		}
		if f.Page < 0 && f != (api.Frame{State: api.FFree, Page: -1}) || f.Page >= 0 && (f.State != api.FUsed || f.Shard != 0) {
			x.t.Fatal("a frame", f)
		}
	}
	slices.Sort(marked)
	if !slices.Equal(got, pages) || !slices.Equal(marked, dirty) {
		x.t.Fatalf("frames have %v, dirty %v; want %v, %v", got, marked, pages, dirty)
	}
}

func (x pair) fail(n int) {
	x.r.Disk().Fail(n)
	x.p.disk.Fail(n)
}

func (x pair) crash(bits ...byte) {
	x.r.Disk().Crash(bits)
	x.p.disk.Crash(bits)
}

// scribble writes an image past the pools.
func (x pair) scribble(id int, image []byte) {
	x.r.Disk().Write(id, image)
	x.p.disk.Write(id, image)
}

// made is a pair in which pages 0 to n - 1 were made by client 0, each with its number as a text at its beginning, and given back, in turn.
func made(t *testing.T, pages, clients, frames, n int) pair {
	t.Helper()
	x := newPair(t, pages, clients, frames)
	for p := range n {
		x.gets(0, create(), p, 0)
		x.do(0, write(0, 0, name(p)), 0)
		x.do(0, unpin(0), 0)
	}
	return x
}

func name(p int) string { return string([]byte{'p', byte('0' + p/10), byte('0' + p%10)}) }

// image is the image of a page with that text at its beginning.
func image(id int, text string) []byte {
	body := make([]byte, 16)
	copy(body, text)
	b, _ := page.Seal(id, body)
	return b
}

// durable is that the device has pages with these texts; of those that are not named, nothing.
func (x pair) durable(texts map[int]string) {
	x.t.Helper()
	for id, b := range x.r.Disk().Durable() {
		want := page.Blank()
		if text, is := texts[id]; is {
			want = image(id, text)
		}
		if !bytes.Equal(b, want) {
			x.t.Fatalf("of page %d the device has %v, want %v", id, b, want)
		}
	}
}

// 16.1: New of all numbers that may be: a new device, free frames, nothing there.
func TestNew(t *testing.T) {
	for pages := 1; pages <= 48; pages++ {
		for clients := 1; clients <= 6; clients++ {
			for frames := 1; frames <= 32; frames++ {
				r := ref.New(pages, clients, frames)
				if r == nil {
					t.Fatal("nil of", pages, clients, frames)
				}
				if len(r.Frames()) != frames || len(r.Order()) != 0 || len(r.There()) != 0 || len(r.Disk().Durable()) != pages || len(r.Disk().Waits()) != 0 || r.Disk().Accesses() != 0 {
					t.Fatal("not a new one:", pages, clients, frames)
				}
				for _, f := range r.Frames() {
					if f != (api.Frame{State: api.FFree, Page: -1}) {
						t.Fatal("a frame of a new one", f)
					}
				}
				if r.Do(clients-1, flushAll()).Code != 0 || r.Do(clients, flushAll()).Code != api.ErrArg || r.Do(0, fetch(pages-1)).Code != api.ErrNone || r.Do(0, fetch(pages)).Code != api.ErrArg {
					t.Fatal("clients or pages of", pages, clients, frames)
				}
			}
		}
	}
}

// 16.1: nil of numbers that may not be, whichever of them it is.
func TestNewOfNone(t *testing.T) {
	for most, at := range map[int]int{48: 0, 6: 1, 32: 2} {
		for _, n := range append([]int{0, most + 1, most + 2}, nothings...) {
			if n >= 1 && n <= most {
				continue
			}
			for _, others := range [][3]int{{1, 1, 1}, {48, 6, 32}, {n, n, n}} {
				others[at] = n
				if ref.New(others[0], others[1], others[2]) != nil {
					t.Fatal("not nil of", others)
				}
			}
		}
	}
}

// The chapter's example, and DOC.md's ninth.
func TestExamples(t *testing.T) {
	x := newPair(t, 3, 1, 1)
	x.gets(0, create(), 0, 0)
	x.do(0, create(), api.ErrFull)
}

// 16.2 (as the model): ErrArg of no such client, whatever the call; of no such Kind, whoever the client.
func TestNobody(t *testing.T) {
	x := made(t, 4, 2, 3, 3)
	x.do(0, fetch(0), 0)
	ops := []api.Op{create(), fetch(0), fetch(3), read(0, 0, 1), read(1, 0, 1), write(0, 0, "x"), unpin(0), flush(0), flush(9), flushAll(), remove(0), remove(1), {}, {Kind: 9}}
	for _, client := range append([]int{2, 3, 5, 6}, nothings...) {
		for _, op := range ops {
			x.do(client, op, api.ErrArg)
		}
	}
	for _, kind := range append([]int{0, 9, 10, 16}, nothings...) {
		for client := range 2 {
			x.do(client, api.Op{Kind: kind, Data: []byte("a")}, api.ErrArg)
		}
	}
	x.order(0, 2, 1)
	x.device(0)
}

// 16.2 (as the model): parts of op that its Kind has not are not asked.
func TestPartsNotAsked(t *testing.T) {
	x := newPair(t, 4, 1, 2)
	for _, n := range append([]int{0, 1, 16, 17}, nothings...) {
		data := []byte("more than what a page has")
		x.gets(0, api.Op{Kind: api.ONew, Page: n, Handle: n, Off: n, N: n, Data: data}, 0, 0)
		x.gets(0, api.Op{Kind: api.OFetch, Handle: n, Off: n, N: n, Data: data}, 0, 1)
		x.do(0, api.Op{Kind: api.OWrite, Handle: 1, Page: n, N: n, Data: []byte("text")}, 0)
		x.reads(0, api.Op{Kind: api.ORead, N: 5, Page: n, Data: data}, "text\x00")
		x.do(0, api.Op{Kind: api.OUnpin, Page: n, Off: n, N: n, Data: data}, 0)
		x.do(0, api.Op{Kind: api.OUnpin, Handle: 1, Page: n, Off: n, N: n, Data: data}, 0)
		x.do(0, api.Op{Kind: api.OFlush, Handle: n, Off: n, N: n, Data: data}, 0)
		x.do(0, api.Op{Kind: api.OFlushAll, Page: n, Handle: n, Off: n, N: n, Data: data}, 0)
		x.do(0, api.Op{Kind: api.ODelete, Handle: n, Off: n, N: n, Data: data}, 0)
	}
}

// 16.2, ONew: the least page that is not there, zeros, dirty, pinned once, at the front; no access of the device as long as frames are free.
func TestCreate(t *testing.T) {
	x := newPair(t, 5, 2, 4)
	x.gets(0, create(), 0, 0)
	x.gets(1, create(), 1, 0)
	x.gets(0, create(), 2, 1)
	x.order(2, 1, 0)
	x.there(0, 1, 2)
	x.holds([]int{0, 1, 2, -1}, 0, 1, 2)
	x.reads(0, read(1, 0, 16), string(make([]byte, 16)))
	x.do(1, unpin(0), 0)
	x.do(1, remove(1), 0)
	x.gets(1, create(), 1, 0) // into the frame that was free longest
	x.holds([]int{0, -1, 2, 1}, 0, 1, 2)
	x.order(1, 2, 0)
	x.device(0)
}

// 16.2, ONew: the page that is made anew where another one was has zeros, though the device has the old one.
func TestCreateAnew(t *testing.T) {
	x := made(t, 2, 1, 1, 1)
	x.do(0, flush(0), 0)
	x.durable(map[int]string{0: name(0)})
	x.do(0, remove(0), 0)
	x.there()
	x.order()
	x.holds([]int{-1})
	x.gets(0, create(), 0, 0)
	x.reads(0, read(0, 0, 3), "\x00\x00\x00")
	x.device(2)
	x.durable(map[int]string{0: name(0)})
	x.do(0, unpin(0), 0)
	x.gets(0, create(), 1, 0) // page 0 is dirty: it is written
	x.do(0, unpin(0), 0)
	x.gets(0, fetch(0), 0, 0)
	x.reads(0, read(0, 0, 3), "\x00\x00\x00")
	x.do(0, flushAll(), 0)
	x.durable(map[int]string{0: "", 1: ""})
}

// 16.2, ONew: ErrHandles, ErrPages, then Room's: in that order, where several apply.
func TestCreateErrors(t *testing.T) {
	x := newPair(t, 2, 2, 1)
	x.gets(0, create(), 0, 0)
	for h := 1; h < 6; h++ {
		x.gets(0, fetch(0), 0, h)
	}
	x.do(0, create(), api.ErrHandles) // and no frame
	x.do(1, create(), api.ErrFull)
	for h := range 6 {
		x.do(0, unpin(h), 0)
	}
	x.fail(1)
	x.do(1, create(), api.ErrIO)
	x.gets(1, create(), 1, 0)
	x.do(0, create(), api.ErrPages) // and no frame
	for h := 1; h < 6; h++ {
		x.gets(1, fetch(1), 1, h)
	}
	x.do(1, create(), api.ErrHandles) // and no page
	x.do(1, fetch(0), api.ErrHandles) // and no frame
	x.do(0, fetch(0), api.ErrFull)
	x.there(0, 1)
}

// 16.2, Room: of the frames without pins the one that was used longest ago, whatever its number; a clean one goes without an access.
func TestRoom(t *testing.T) {
	x := made(t, 8, 2, 4, 4)
	x.do(0, flushAll(), 0)
	x.device(5)
	x.order(3, 2, 1, 0)
	x.gets(0, fetch(0), 0, 0) // 0 is used, and pinned
	x.gets(0, fetch(2), 2, 1)
	x.order(2, 0, 3, 1)
	x.gets(1, create(), 4, 0) // for 1
	x.order(4, 2, 0, 3)
	x.holds([]int{0, 4, 2, 3}, 4)
	x.gets(1, create(), 5, 1) // for 3
	x.order(5, 4, 2, 0)
	x.holds([]int{0, 4, 2, 5}, 4, 5)
	x.do(0, create(), api.ErrFull)
	x.do(0, fetch(1), api.ErrFull)
	x.gets(1, fetch(2), 2, 2) // in a frame: no room is needed
	x.order(2, 5, 4, 0)
	x.do(0, unpin(1), 0) // client 1 has it pinned, too
	x.do(0, fetch(1), api.ErrFull)
	x.device(5)
	x.do(1, unpin(2), 0) // it goes, though it was used last
	x.gets(0, fetch(1), 1, 1)
	x.order(1, 5, 4, 0)
	x.reads(0, read(1, 0, 3), name(1))
	x.device(6)
}

// 16.2, Room: a dirty frame is sealed and written, not synced; what was in it is found again.
func TestRoomDirty(t *testing.T) {
	x := made(t, 6, 1, 2, 2)
	x.gets(0, create(), 2, 0)
	x.device(1, 0)
	x.gets(0, create(), 3, 1)
	x.device(2, 0, 1)
	x.holds([]int{2, 3}, 2, 3)
	x.durable(nil)
	x.do(0, unpin(0), 0)
	x.gets(0, fetch(0), 0, 0) // 2 is written, 0 is read
	x.device(4, 0, 1, 2)
	x.holds([]int{0, 3}, 3)
	x.reads(0, read(0, 0, 4), name(0)+"\x00")
	x.do(0, unpin(0), 0)
	x.gets(0, fetch(1), 1, 0) // 0 is clean, and goes without
	x.device(5, 0, 1, 2)
	x.do(0, flushAll(), 0)
	x.device(7)
	x.durable(map[int]string{0: name(0), 1: name(1), 2: "", 3: ""})
}

// 16.2, Room: ErrIO: nothing has changed, and no other frame is tried; the next call may have it.
func TestRoomFails(t *testing.T) {
	x := made(t, 6, 1, 3, 3)
	x.do(0, flush(1), 0) // 1 could go without an access
	for _, op := range []api.Op{create(), create()} {
		was := x.r.Disk().Accesses()
		x.fail(1)
		x.do(0, op, api.ErrIO)
		x.order(2, 1, 0)
		x.there(0, 1, 2)
		x.holds([]int{0, 1, 2}, 0, 2)
		x.device(was + 1)
	}
	x.gets(0, create(), 3, 0)
	x.device(5, 0)
	x.order(3, 2, 1)
	x.do(0, fetch(0), 0) // for 1
	x.device(6, 0)
	x.fail(1)
	x.do(0, fetch(1), api.ErrIO) // 2 can't be written
	x.order(0, 3, 2)
	x.holds([]int{3, 0, 2}, 2, 3)
	x.device(7, 0)
	x.gets(0, fetch(1), 1, 2)
	x.device(9, 0, 2)
}

// 16.2, OFetch: ErrArg, ErrNone, ErrHandles, ahead of Room's.
func TestFetchErrors(t *testing.T) {
	x := newPair(t, 5, 2, 1)
	x.gets(0, create(), 0, 0)
	x.do(0, unpin(0), 0)
	x.gets(0, create(), 1, 0)
	for h := 1; h < 6; h++ {
		x.gets(0, fetch(1), 1, h)
	}
	for _, client := range []int{0, 1} {
		for _, p := range append([]int{5, 6}, nothings...) {
			x.do(client, fetch(p), api.ErrArg)
		}
		for p := 2; p < 5; p++ {
			x.do(client, fetch(p), api.ErrNone)
		}
	}
	x.do(0, fetch(0), api.ErrHandles)
	x.do(0, fetch(1), api.ErrHandles)
	x.do(1, fetch(0), api.ErrFull)
	x.device(1, 0)
	for h := range 6 {
		x.do(0, unpin(h), 0)
	}
	x.fail(1)
	x.do(1, fetch(2), api.ErrNone)
	x.do(1, fetch(5), api.ErrArg)
	x.do(1, fetch(0), api.ErrIO)
	x.device(2, 0)
}

// 16.2, OFetch: a page with a frame goes to the front, pinned once more, without an access; dirty stays dirty.
func TestFetchInFrame(t *testing.T) {
	x := made(t, 4, 2, 4, 3)
	x.do(0, flush(1), 0)
	for _, p := range []int{0, 1, 2} {
		was := x.r.Disk().Accesses()
		x.gets(1, fetch(p), p, p)
		x.gets(0, fetch(p), p, 0)
		x.do(0, unpin(0), 0)
		if x.r.Order()[0] != p || x.r.Disk().Accesses() != was || x.r.Frames()[p].Pins != 1 {
			t.Fatal(x.r.Order(), x.r.Frames())
		}
	}
	x.order(2, 1, 0)
	x.holds([]int{0, 1, 2, -1}, 0, 2)
}

// 16.2, OFetch: ErrIO of the Read: the frame is dropped; what went for it is out, and was written.
func TestFetchUnread(t *testing.T) {
	x := made(t, 4, 1, 2, 3) // 0 is out
	x.order(2, 1)
	x.device(1, 0)
	x.fail(2)
	x.do(0, fetch(0), api.ErrIO)
	x.device(3, 0, 1)
	x.order(2)
	x.there(0, 1, 2)
	x.holds([]int{2, -1}, 2)
	x.fail(1)
	x.do(0, fetch(1), api.ErrIO) // a frame is free: its Read is the first access
	x.device(4, 0, 1)
	x.order(2)
	x.holds([]int{2, -1}, 2)
	x.gets(0, fetch(1), 1, 0)
	x.holds([]int{2, 1}, 2)
	x.reads(0, read(0, 0, 3), name(1))
	x.do(0, unpin(0), 0)
	x.gets(0, fetch(0), 0, 0)
	x.reads(0, read(0, 0, 3), name(0))
	x.order(0, 1)
}

// 16.2, OFetch: a frame that is dropped is the last one of the free.
func TestFetchUnreadIsLast(t *testing.T) {
	x := made(t, 6, 1, 3, 4) // page 0 is out, for 3
	x.holds([]int{3, 1, 2}, 1, 2, 3)
	x.do(0, remove(2), 0)
	x.do(0, remove(1), 0) // free: 2, 1
	x.fail(1)
	x.do(0, fetch(0), api.ErrIO) // free: 1, 2
	x.holds([]int{3, -1, -1}, 3)
	x.gets(0, create(), 1, 0)
	x.holds([]int{3, 1, -1}, 1, 3)
}

// 16.2, OFetch: ErrCorrupt likewise: of each page whose image is no page's, or another page's.
func TestFetchCorrupt(t *testing.T) {
	torn := image(0, "old")
	copy(torn[12:], image(0, "all that is new")[12:])
	turned := image(0, "p00")
	turned[23] ^= 1
	for _, bad := range [][]byte{image(1, "p00"), torn, turned, bytes.Repeat([]byte{1}, 24)} {
		x := made(t, 4, 2, 2, 3)
		x.scribble(0, bad)
		x.do(0, fetch(0), api.ErrCorrupt) // for 1, which is written
		x.order(2)
		x.there(0, 1, 2)
		x.holds([]int{2, -1}, 2)
		x.device(4, 0, 1)
		x.do(1, fetch(0), api.ErrCorrupt)
		x.device(5, 0, 1)
		x.holds([]int{2, -1}, 2)
		x.do(0, read(0, 0, 1), api.ErrHandle) // no handle has it
		x.do(0, flush(0), 0)                  // it is there
		x.do(0, remove(0), 0)
		x.there(1, 2)
		x.gets(0, create(), 0, 0)
		x.reads(0, read(0, 0, 3), "\x00\x00\x00")
	}
}

// 16.2, OFetch: ErrBlank: zeros, pinned, not dirty.
func TestFetchBlank(t *testing.T) {
	x := made(t, 4, 1, 1, 2)
	x.scribble(0, page.Blank())
	x.gets(0, fetch(0), 0, 0)
	x.holds([]int{0})
	x.order(0)
	x.reads(0, read(0, 0, 16), string(make([]byte, 16)))
	if f := x.r.Frames()[0]; f.Pins != 1 {
		t.Fatal(f)
	}
}

// 16.2, OFetch: what the device has is in the frame, byte by byte; pinned, not dirty.
func TestFetchReads(t *testing.T) {
	x := made(t, 48, 1, 1, 48)
	body := make([]byte, 16)
	for p := range 48 {
		for i := range body {
			body[i] = byte(p*16 + i*37)
		}
		b, _ := page.Seal(p, body)
		if p < 47 { // 47 is in the frame
			x.scribble(p, b)
			x.gets(0, fetch(p), p, 0)
			x.holds([]int{p})
			x.reads(0, read(0, 0, 16), string(body))
			x.do(0, unpin(0), 0)
		}
	}
}

// 16.2, ORead: what stands there; the frame goes to the front, and stays as it is.
func TestRead(t *testing.T) {
	x := newPair(t, 3, 2, 3)
	for p := range 3 {
		x.gets(0, create(), p, p)
	}
	x.do(0, write(1, 0, "abcdefghijklmnop"), 0)
	x.do(0, flushAll(), 0)
	for off := range 17 {
		for n := range 17 - off {
			x.do(0, read(0, 0, 0), 0)
			x.order(0, 1, 2)
			x.reads(0, read(1, off, n), "abcdefghijklmnop"[off:off+n])
			x.order(1, 0, 2)
			x.reads(0, read(2, off, n), string(make([]byte, n)))
			x.do(0, read(1, 16, 0), 0)
			x.order(1, 2, 0)
		}
	}
	x.holds([]int{0, 1, 2})
	x.device(4)
}

// 16.2, OWrite: the bytes, and no others; the frame is dirty, and at the front, though there be no bytes.
func TestWrite(t *testing.T) {
	for off := range 17 {
		for n := range 17 - off {
			x := newPair(t, 2, 1, 2)
			x.gets(0, create(), 0, 0)
			x.do(0, write(0, 0, "abcdefghijklmnop"), 0)
			x.gets(0, create(), 1, 1)
			x.do(0, flushAll(), 0)
			x.holds([]int{0, 1})
			x.order(1, 0)
			text := "ABCDEFGHIJKLMNOP"[:n]
			x.do(0, write(0, off, text), 0)
			x.order(0, 1)
			x.holds([]int{0, 1}, 0)
			x.reads(0, read(0, 0, 16), "abcdefghijklmnop"[:off]+text+"abcdefghijklmnop"[off+n:])
			x.reads(0, read(1, 0, 16), string(make([]byte, 16)))
			x.do(0, api.Op{Kind: api.OWrite, Handle: 1, Off: off}, 0)
			x.order(1, 0)
			x.holds([]int{0, 1}, 0, 1)
			x.device(3)
		}
	}
}

// 16.2, ORead, OWrite: ErrHandle, ErrRange, in that order; with an error the order stays, and so does what is dirty.
func TestReadWriteErrors(t *testing.T) {
	x := newPair(t, 3, 2, 2)
	x.gets(0, create(), 0, 0)
	x.gets(0, create(), 1, 1)
	x.gets(1, fetch(1), 1, 0)
	x.gets(1, fetch(0), 0, 1)
	x.do(1, unpin(1), 0)
	x.do(0, flushAll(), 0)
	x.order(0, 1)
	for _, h := range append([]int{2, 3, 5, 6, 7}, nothings...) {
		for _, off := range []int{0, 17, -1} {
			x.do(0, read(h, off, 1), api.ErrHandle)
			x.do(0, write(h, off, "x"), api.ErrHandle)
		}
	}
	for _, h := range []int{1, 2, 5} { // another client's
		x.do(1, read(h, 0, 1), api.ErrHandle)
		x.do(1, write(h, 0, "x"), api.ErrHandle)
		x.do(1, unpin(h), api.ErrHandle)
	}
	for _, n := range append([]int{17, 18}, nothings...) {
		x.do(1, read(0, n, 0), api.ErrRange)
		x.do(1, read(0, n, 1), api.ErrRange)
		x.do(1, read(0, 0, n), api.ErrRange)
		x.do(1, read(0, 16, n), api.ErrRange)
		x.do(1, read(0, n, n), api.ErrRange)
		x.do(1, read(0, n, -n), api.ErrRange)
		x.do(1, read(0, n, 16-n), api.ErrRange)
		x.do(1, write(0, n, ""), api.ErrRange)
		x.do(1, write(0, n, "x"), api.ErrRange)
	}
	for off := range 18 {
		x.do(1, read(0, off, 17-off), api.ErrRange)
		x.do(1, write(0, off, "ABCDEFGHIJKLMNOPQ"[off:]), api.ErrRange)
	}
	x.do(1, api.Op{Kind: api.OWrite, Data: make([]byte, 1<<16)}, api.ErrRange)
	x.order(0, 1)
	x.holds([]int{0, 1})
	x.device(3)
}

// 16.2, OUnpin: one pin less, ErrHandle of a handle that has no page; the order stays.
func TestUnpin(t *testing.T) {
	x := newPair(t, 2, 2, 2)
	x.gets(0, create(), 0, 0)
	x.gets(0, create(), 1, 1)
	for h := 2; h < 6; h++ {
		x.gets(0, fetch(0), 0, h)
		x.gets(1, fetch(0), 0, h-2)
	}
	x.order(0, 1)
	x.reads(0, read(1, 0, 1), "\x00")
	for h := range 4 {
		x.do(1, unpin(h), 0)
		x.do(1, unpin(h), api.ErrHandle)
		x.do(1, unpin(h), api.ErrHandle)
		if got := x.r.Frames()[0].Pins; got != 8-h {
			t.Fatal("pins", got)
		}
	}
	for _, h := range append([]int{4, 5, 6}, nothings...) {
		x.do(1, unpin(h), api.ErrHandle)
	}
	x.order(1, 0)
	x.do(0, unpin(0), 0)
	x.gets(0, fetch(1), 1, 0) // the least one, again
	x.device(0)
}

// 16.2, OFlush: ErrArg, ErrNone; what is dirty is written, and clean then; then a Sync, always; the order stays.
func TestFlush(t *testing.T) {
	x := made(t, 6, 2, 3, 4) // 0 is out, and waits
	x.gets(1, fetch(2), 2, 0)
	x.order(2, 3, 1)
	x.device(1, 0)
	for _, p := range append([]int{6, 7}, nothings...) {
		x.do(0, flush(p), api.ErrArg)
	}
	x.do(0, flush(4), api.ErrNone)
	x.do(0, flush(5), api.ErrNone)
	x.device(1, 0)
	x.do(0, flush(1), 0) // written and synced: what waits, too
	x.device(3)
	x.durable(map[int]string{0: name(0), 1: name(1)})
	x.holds([]int{3, 1, 2}, 2, 3)
	x.do(0, flush(1), 0) // a clean one: a Sync alone
	x.device(4)
	x.do(0, flush(0), 0) // without a frame: a Sync alone, and no frame
	x.device(5)
	x.holds([]int{3, 1, 2}, 2, 3)
	x.do(0, flush(2), 0) // pinned by another client
	x.device(7)
	x.durable(map[int]string{0: name(0), 1: name(1), 2: name(2)})
	x.holds([]int{3, 1, 2}, 3)
	x.order(2, 3, 1)
}

// 16.2, OFlush: ErrIO of the Write: it stays dirty, and nothing is synced; ErrIO of the Sync: it is clean, and waits.
func TestFlushFails(t *testing.T) {
	x := made(t, 4, 1, 2, 3)
	x.device(1, 0)
	x.fail(1)
	x.do(0, flush(1), api.ErrIO)
	x.device(2, 0)
	x.holds([]int{2, 1}, 1, 2)
	x.fail(2)
	x.do(0, flush(1), api.ErrIO)
	x.device(4, 0, 1)
	x.holds([]int{2, 1}, 2)
	x.fail(1)
	x.do(0, flush(1), api.ErrIO)
	x.device(5, 0, 1)
	x.durable(nil)
	x.fail(1)
	x.do(0, flush(0), api.ErrIO)
	x.device(6, 0, 1)
	x.do(0, flush(1), 0)
	x.device(7)
	x.durable(map[int]string{0: name(0), 1: name(1)})
	x.order(2, 1)
}

// 16.2, OFlushAll: each dirty frame, by pages, whatever the frames' numbers and their order; then one Sync.
func TestFlushAll(t *testing.T) {
	x := made(t, 9, 1, 4, 7)
	x.do(0, fetch(1), 0)
	x.do(0, write(0, 0, "one"), 0)
	x.do(0, fetch(6), 0)
	x.do(0, write(1, 0, "six"), 0)
	x.do(0, fetch(3), 0)
	x.order(3, 6, 1, 5)
	x.do(0, flush(5), 0)
	x.holds([]int{3, 5, 6, 1}, 1, 6)
	x.do(0, write(2, 0, "three"), 0)
	was := x.r.Disk().Accesses()
	x.do(0, flushAll(), 0)
	x.device(was + 4)
	x.holds([]int{3, 5, 6, 1})
	x.durable(map[int]string{0: name(0), 1: "one", 2: name(2), 3: "three", 4: name(4), 5: name(5), 6: "six"})
	x.do(0, flushAll(), 0)
	x.device(was + 5)
	x.order(3, 6, 1, 5)
}

// 16.2, OFlushAll: the first ErrIO ends it: those ahead of it, by pages, are written and clean, those behind it, and it, are not; nothing is synced.
func TestFlushAllFails(t *testing.T) {
	for fails := range 6 {
		x := made(t, 4, 1, 4, 4)
		for _, p := range []int{2, 0, 3, 1} { // nor are they in the order of their pages
			x.do(0, fetch(p), 0)
			x.do(0, unpin(0), 0)
		}
		x.order(1, 3, 0, 2)
		x.fail(fails)
		switch {
		case fails == 0: // none
			x.do(0, flushAll(), 0)
			x.device(5)
			x.holds([]int{0, 1, 2, 3})
		case fails < 5:
			x.do(0, flushAll(), api.ErrIO)
			x.device(fails, []int{0, 1, 2, 3}[:fails-1]...)
			x.holds([]int{0, 1, 2, 3}, []int{0, 1, 2, 3}[fails-1:]...)
			x.durable(nil)
			x.do(0, flushAll(), 0) // it takes up where it ended
			x.device(fails + 5 - (fails - 1))
		default: // the Sync
			x.do(0, flushAll(), api.ErrIO)
			x.device(5, 0, 1, 2, 3)
			x.holds([]int{0, 1, 2, 3})
		}
		x.order(1, 3, 0, 2)
	}
}

// 16.2, OFlushAll: by pages, where frames have them the other way round.
func TestFlushAllByPages(t *testing.T) {
	for fails := 1; fails < 5; fails++ {
		x := made(t, 4, 1, 4, 4)
		for _, p := range []int{3, 2, 1, 0} {
			x.do(0, remove(p), 0)
		}
		for p := range 4 {
			x.gets(0, create(), p, p)
		}
		x.holds([]int{3, 2, 1, 0}, 0, 1, 2, 3)
		x.fail(fails)
		x.do(0, flushAll(), api.ErrIO)
		x.device(fails, []int{0, 1, 2, 3}[:fails-1]...)
		x.holds([]int{3, 2, 1, 0}, []int{0, 1, 2, 3}[fails-1:]...)
	}
}

// 16.2, ODelete: ErrArg, ErrNone, ErrPinned; the frame is dropped, dirty or not, without an access, the last one of the free.
func TestDelete(t *testing.T) {
	x := made(t, 6, 2, 3, 4) // 0 is out
	x.gets(0, fetch(2), 2, 0)
	x.gets(1, fetch(2), 2, 0)
	for _, p := range append([]int{6, 7}, nothings...) {
		x.do(0, remove(p), api.ErrArg)
	}
	x.do(0, remove(5), api.ErrNone)
	for client := range 2 {
		x.do(0, remove(2), api.ErrPinned)
		x.do(1, remove(2), api.ErrPinned)
		x.do(client, unpin(0), 0)
	}
	x.order(2, 3, 1)
	x.do(1, remove(2), 0) // free: 2
	x.order(3, 1)
	x.there(0, 1, 3)
	x.do(0, remove(2), api.ErrNone)
	x.do(0, remove(0), 0) // no frame: no frame is dropped
	x.there(1, 3)
	x.holds([]int{3, 1, -1}, 1, 3)
	x.do(0, remove(3), 0) // free: 2, 0
	x.holds([]int{-1, 1, -1}, 1)
	x.order(1)
	x.device(1, 0) // what was written stays
	x.gets(0, create(), 0, 0)
	x.gets(0, create(), 2, 1)
	x.holds([]int{2, 1, 0}, 0, 1, 2)
	x.do(0, flushAll(), 0)
	x.durable(map[int]string{0: "", 1: name(1), 2: ""})
}

// 16.2: a device that has crashed is to a call one that failed; what needs no access goes on.
func TestCrashed(t *testing.T) {
	x := made(t, 6, 1, 3, 4) // 0 is out, and waits
	x.do(0, flush(1), 0)
	x.order(3, 2, 1)
	x.crash()
	for range 2 {
		x.do(0, flush(0), api.ErrIO)
		x.do(0, flush(1), api.ErrIO)
		x.do(0, flush(2), api.ErrIO)
		x.do(0, flushAll(), api.ErrIO)
	}
	x.holds([]int{3, 1, 2}, 2, 3)
	x.do(0, fetch(0), api.ErrIO) // 1 is clean, and goes; 0 can't be read
	x.order(3, 2)
	x.holds([]int{3, -1, 2}, 2, 3)
	x.gets(0, create(), 4, 0) // there is a free frame
	x.do(0, unpin(0), 0)
	x.do(0, create(), api.ErrIO) // there is none
	x.do(0, fetch(1), api.ErrIO)
	x.order(4, 3, 2)
	x.there(0, 1, 2, 3, 4)
	x.gets(0, fetch(2), 2, 0)
	x.reads(0, read(0, 0, 3), name(2))
	x.do(0, write(0, 0, "x"), 0)
	x.do(0, unpin(0), 0)
	x.do(0, remove(2), 0)
	x.do(0, remove(0), 0)
	x.do(0, fetch(5), api.ErrNone)
	x.do(0, flush(5), api.ErrNone)
	x.do(0, flush(6), api.ErrArg)
	x.device(3)
	x.durable(map[int]string{0: name(0), 1: name(1)})
}

// steps of the runs that are all tried: calls of client 0 or 1, and faults.
type step struct {
	client int
	op     api.Op
	fail   int
}

// 16.2: all runs of four steps behind some beginnings, beside a plain pool.
func TestAllRuns(t *testing.T) {
	steps := []step{
		{op: create()}, {client: 1, op: create()},
		{op: fetch(0)}, {op: fetch(1)}, {client: 1, op: fetch(2)},
		{op: read(0, 0, 2)}, {op: write(0, 1, "w")}, {client: 1, op: write(0, 2, "v")},
		{op: unpin(0)}, {client: 1, op: unpin(0)},
		{op: flush(0)}, {op: flushAll()},
		{op: remove(0)}, {op: remove(1)},
		{fail: 1}, {fail: 2},
	}
	fresh := [][]step{
		nil,
		{{op: create()}, {op: unpin(0)}, {op: create()}, {op: unpin(0)}},
		{{op: create()}, {op: write(0, 0, "ab")}, {op: unpin(0)}, {op: create()}, {op: unpin(0)}, {op: create()}, {op: unpin(0)}, {op: flush(2)}},
	}
	for _, frames := range []int{1, 2} {
		for _, begin := range fresh {
			runs(t, 3, 2, frames, begin, steps, 4)
		}
	}
}

// runs tries all runs of so many steps behind a beginning.
func runs(t *testing.T, pages, clients, frames int, begin, steps []step, long int) {
	t.Helper()
	total := 1
	for range long {
		total *= len(steps)
	}
	for n := range total {
		x := pair{t, ref.New(pages, clients, frames), newPlain(pages, clients, frames)}
		for _, s := range begin {
			x.silent(s)
		}
		for range long {
			s := steps[n%len(steps)]
			x.silent(s)
			n /= len(steps)
		}
		x.stands()
	}
}

// silent makes a step, and holds what is told alone. (What stands behind a shorter run is asked at its own end.)
func (x pair) silent(s step) {
	x.t.Helper()
	if s.fail > 0 {
		x.fail(s.fail)
		return
	}
	want := x.p.do(s.client, s.op)
	if got := x.r.Do(s.client, s.op); !model.SameRes(got, want) {
		x.t.Fatalf("Do(%d, %+v) = %+v, want %+v", s.client, s.op, got, want)
	}
}

// anyOp is some call, mostly one that may be.
func anyOp(r *rand.Rand, pages int) api.Op {
	op := api.Op{Kind: 1 + r.Intn(8), Page: r.Intn(pages), Handle: r.Intn(6)}
	switch r.Intn(12) {
	case 0:
		op.Page = pages + r.Intn(3) - 1
		op.Handle = r.Intn(8) - 1
	case 1:
		op.Kind = api.ONew
	case 2, 3:
		op.Kind = api.OFetch
	case 4:
		op.Kind = api.OUnpin
	}
	if op.Kind == api.OFlushAll && r.Intn(4) > 0 {
		op.Kind = api.OUnpin
	}
	op.Off = r.Intn(17)
	op.N = r.Intn(18 - op.Off)
	op.Data = make([]byte, r.Intn(18-op.Off))
	r.Read(op.Data)
	return op
}

// 16.2, 16.3: lives by chance of pools of all sizes, with accesses that fail, images that are blank, torn or another's, and crashes, beside a plain pool.
func TestLives(t *testing.T) {
	r := rand.New(rand.NewSource(162))
	for life := range 1500 {
		pages, clients, frames := 1+r.Intn(48), 1+r.Intn(6), 1+r.Intn(32)
		if life%3 > 0 {
			pages, frames = 1+r.Intn(8), 1+r.Intn(4)
		}
		x := newPair(t, pages, clients, frames)
		for range 150 {
			switch n := r.Intn(100); {
			case n < 6:
				x.fail(r.Intn(4))
			case n == 6 && life%4 == 0:
				x.scribble(r.Intn(pages), scrawl(r, pages))
			case n == 7 && r.Intn(20) == 0:
				bits := make([]byte, r.Intn(13))
				r.Read(bits)
				x.crash(bits...)
			default:
				x.call(r.Intn(clients+1)-r.Intn(2), anyOp(r, pages))
			}
		}
	}
}

// scrawl is some image.
func scrawl(r *rand.Rand, pages int) []byte {
	b := page.Blank()
	switch r.Intn(3) {
	case 0:
		r.Read(b)
	case 1:
		b = image(r.Intn(pages), "scrawl")
	}
	return b
}

// 16.2: scripts by any bytes, beside a plain pool.
func TestScripts(t *testing.T) {
	r := rand.New(rand.NewSource(161))
	for range 2000 {
		c := api.Conf{Pages: 1 + r.Intn(8), Frames: 1 + r.Intn(5), Shards: 1, Clients: 1 + r.Intn(6)}
		b := make([]byte, 4*r.Intn(400))
		r.Read(b)
		x := newPair(t, c.Pages, c.Clients, c.Frames)
		for _, s := range script.All(b, c) {
			switch s.Kind {
			case api.SCall:
				x.call(s.Client, s.Op)
			case api.SFault:
				x.fail(s.N)
			case api.SCrash:
				x.crash(s.Bits...)
			}
		}
	}
}

// event has a pool make a call, and is the event that it is in a history.
func event(r *ref.Ref, now, client int, op api.Op) api.Event {
	return api.Event{Client: client, Op: op, Res: r.Do(client, op), Begin: now, Stamp: now, End: now}
}

// T1, 16.3: all is done in turn: what calls tell is a history that is right, with faults, crashes and too few frames, too; between calls nothing is under way, and the pins of a frame are the handles that have its page.
func TestHistory(t *testing.T) {
	r := rand.New(rand.NewSource(163))
	for life := range 2000 {
		pages, clients, frames := 1+r.Intn(10), 1+r.Intn(6), 1+r.Intn(6)
		x := ref.New(pages, clients, frames)
		var l []api.Event
		for now := 1; now <= 120; now++ {
			switch n := r.Intn(50); {
			case n < 4:
				x.Disk().Fail(r.Intn(3))
			case n == 4 && r.Intn(6) == 0:
				x.Disk().Crash([]byte{byte(r.Intn(256)), byte(r.Intn(256))})
			default:
				l = append(l, event(x, now, r.Intn(clients), anyOp(r, pages)))
			}
		}
		if n := hist.Check(l, pages, clients); n != 0 {
			t.Fatalf("life %d: event %d is wrong: %+v", life, n, l[n-1])
		}
		s, _ := hist.Final(l, pages, clients)
		stoodBy(t, x, s)
	}
}

// stoodBy is that a pool is as the model's state says.
func stoodBy(t *testing.T, x *ref.Ref, s api.State) {
	t.Helper()
	var there []int
	for p, is := range s.There {
		if is {
			there = append(there, p)
		}
	}
	if !slices.Equal(x.There(), there) {
		t.Fatal("there are", x.There(), "want", there)
	}
	in := map[int]bool{}
	for _, f := range x.Frames() {
		switch {
		case f.State == api.FFree && f.Page == -1 && f.Pins == 0 && !f.Dirty:
		case f.State == api.FUsed && f.Pins == model.Pins(s, f.Page) && s.There[f.Page] && !in[f.Page]:
			in[f.Page] = true
		default:
			t.Fatal("a frame", f)
		}
	}
	order := x.Order()
	for _, p := range order {
		if !in[p] {
			t.Fatal("in the order, in no frame:", p)
		}
	}
	if len(order) != len(in) {
		t.Fatal("the order", order, "of", in)
	}
	for p := range s.There {
		if model.Pins(s, p) > 0 && !in[p] {
			t.Fatal("pinned, in no frame:", p)
		}
	}
}

// T2: the same calls again, in their order, by pools of all numbers of frames that have room for what is pinned: they tell the same, and leave the same pages on the device, those of the model.
func TestSameAgain(t *testing.T) {
	r := rand.New(rand.NewSource(2))
	for range 300 {
		pages, clients := 1+r.Intn(20), 1+r.Intn(4)
		var l []api.Event
		var clientsOf []int
		s, most := model.New(pages, clients), 1
		for now := 1; now <= 150; now++ {
			client, op := r.Intn(clients), anyOp(r, pages)
			next, res := model.Do(s, client, op)
			if pinned(next) > 32 {
				continue
			}
			s, most = next, max(most, pinned(next))
			l = append(l, api.Event{Client: client, Op: op, Res: res})
			clientsOf = append(clientsOf, client)
		}
		for _, frames := range []int{most, min(most+1, 32), (most + 32) / 2, 32} {
			x := ref.New(pages, clients, frames)
			for i, e := range l {
				if got := x.Do(clientsOf[i], e.Op); !model.SameRes(got, e.Res) {
					t.Fatalf("with %d frames: Do(%d, %+v) = %+v, want %+v", frames, e.Client, e.Op, got, e.Res)
				}
			}
			if x.Do(0, flushAll()).Code != 0 || len(x.Disk().Waits()) != 0 {
				t.Fatal("it is not flushed")
			}
			for p, b := range x.Disk().Durable() {
				if want, _ := page.Seal(p, s.Body[p]); s.There[p] && !bytes.Equal(b, want) {
					t.Fatalf("with %d frames: of page %d the device has %v, want %v", frames, p, b, want)
				}
			}
			stoodBy(t, x, s)
		}
	}
}

// pinned is how many pages handles have.
func pinned(s api.State) int {
	n := 0
	for p := range s.There {
		if model.Pins(s, p) > 0 {
			n++
		}
	}
	return n
}

// T3: whenever the device crashes, each page that is there is as its last flush left it, or as it was at some time since; what is torn is told.
func TestCrashes(t *testing.T) {
	r := rand.New(rand.NewSource(3))
	for range 3000 {
		pages, frames := 1+r.Intn(6), 1+r.Intn(4)
		x := ref.New(pages, 1, frames)
		s := model.New(pages, 1)
		since := make([][][]byte, pages) // of each page: its bodies from its last flush on
		flushed := make([]bool, pages)
		for range r.Intn(80) {
			if r.Intn(12) == 0 {
				x.Disk().Fail(r.Intn(3))
			}
			op := anyOp(r, pages)
			if res := x.Do(0, op); res.Code == 0 {
				s, _ = model.Do(s, 0, op)
				for p := range s.There {
					if s.There[p] && (op.Kind == api.OFlushAll || op.Kind == api.OFlush && op.Page == p) {
						since[p], flushed[p] = nil, true
					}
					if s.There[p] {
						since[p] = append(since[p], bytes.Clone(s.Body[p]))
					}
				}
			}
		}
		tears := r.Intn(2)
		bits := make([]byte, 2)
		for i := range bits {
			bits[i] = byte(r.Intn(256)) & []byte{0b01010101, 0b11111111}[tears]
		}
		x.Disk().Crash(bits)
		for p, b := range x.Disk().Durable() {
			if !s.There[p] {
				continue
			}
			body, code := page.Open(p, b)
			known := slices.ContainsFunc(since[p], func(was []byte) bool { return bytes.Equal(was, body) })
			switch {
			case code == 0 && known, code == api.ErrBlank && !flushed[p]:
			case code == api.ErrCorrupt && tears > 0:
			default:
				t.Fatalf("of page %d the device has %v (%d), since its flush (%v) it was %v", p, body, code, flushed[p], since[p])
			}
		}
	}
}

// 16.1, 16.2: of nil: ErrState alone, ahead of ErrArg; nil, nothing.
func TestNil(t *testing.T) {
	var r *ref.Ref
	for _, client := range append([]int{0, 5}, nothings...) {
		for kind := -1; kind < 10; kind++ {
			op := api.Op{Kind: kind, Page: 1, Handle: 1, Off: 1, N: 1, Data: []byte("a")}
			if got := r.Do(client, op); !model.SameRes(got, api.Res{Code: api.ErrState}) {
				t.Fatal(got)
			}
		}
	}
	if r.Disk() != nil || len(r.Frames()) != 0 || len(r.Order()) != 0 || len(r.There()) != 0 {
		t.Fatal("nobody has something")
	}
}

// Rule 1: a pool made without New has no clients, whatever is asked of it.
func TestRefWithoutNew(t *testing.T) {
	var r ref.Ref
	for _, client := range append([]int{0, 5}, nothings...) {
		for kind := -1; kind < 10; kind++ {
			if got := r.Do(client, api.Op{Kind: kind}); !model.SameRes(got, api.Res{Code: api.ErrArg}) {
				t.Fatal(got)
			}
		}
	}
	if r.Disk() != nil || len(r.Frames()) != 0 || len(r.Order()) != 0 || len(r.There()) != 0 {
		t.Fatal("it has something")
	}
}

// Rule 2: what is handed in is not changed, and not kept.
func TestDataStays(t *testing.T) {
	x := newPair(t, 1, 1, 1)
	x.gets(0, create(), 0, 0)
	data := []byte("0123456789abcdef, and more")
	op := api.Op{Kind: api.OWrite, Off: 2, Data: data[:10]}
	x.do(0, op, 0)
	x.do(0, flush(0), 0)
	if string(data) != "0123456789abcdef, and more" || op.Off != 2 || len(op.Data) != 10 {
		t.Fatal("it is changed", data)
	}
	copy(data, "--------------------------")
	x.reads(0, read(0, 0, 16), "\x00\x000123456789\x00\x00\x00\x00")
	x.do(0, write(0, 0, ""), 0)
	x.do(0, flush(0), 0)
	x.durable(map[int]string{0: "\x00\x000123456789"})
}

// Rule 2: what is told is the caller's own.
func TestToldIsTheCallers(t *testing.T) {
	x := made(t, 4, 1, 3, 3)
	x.gets(0, fetch(1), 1, 0)
	one, two := x.r.Do(0, read(0, 0, 3)), x.r.Do(0, read(0, 0, 3))
	copy(one.Data, "---")
	_ = append(one.Data[:1], "----------------"...)
	if string(two.Data) != name(1) {
		t.Fatal("two answers share", two)
	}
	x.call(0, read(0, 0, 16))
	frames, order, there := x.r.Frames(), x.r.Order(), x.r.There()
	for _, l := range [][]int{x.r.Order(), x.r.There()} {
		for i := range l {
			l[i] = 9
		}
		_ = append(l[:0], 7, 7, 7)
	}
	clear(x.r.Frames())
	x.stands()
	x.do(0, write(0, 0, "abc"), 0)
	x.do(0, unpin(0), 0)
	x.do(0, remove(2), 0)
	x.gets(0, create(), 2, 0)
	x.gets(0, create(), 3, 1)
	if string(two.Data) != name(1) || !slices.Equal(order, []int{1, 2, 0}) || !slices.Equal(there, []int{0, 1, 2}) || frames[1] != (api.Frame{State: api.FUsed, Page: 1, Pins: 1, Dirty: true}) {
		t.Fatal("an answer is changed by a call")
	}
}

// Rule 3: a pool hangs on what was done with it alone; its device is its own, and the same at every asking.
func TestRefsAreApart(t *testing.T) {
	x, y := made(t, 3, 2, 2, 1), made(t, 3, 2, 2, 1)
	if x.r.Disk() == y.r.Disk() || x.r.Disk() != x.r.Disk() {
		t.Fatal("devices")
	}
	for _, op := range []api.Op{create(), write(0, 3, "x"), create(), unpin(0), create(), flushAll(), unpin(1), remove(0)} {
		x.call(0, op)
		y.stands()
	}
	for _, op := range []api.Op{fetch(0), write(0, 0, "y"), flush(0), create(), unpin(0), remove(0)} {
		y.call(1, op)
		x.stands()
	}
	y.crash()
	x.do(0, flushAll(), 0)
}
