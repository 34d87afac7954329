package model_test

import (
	"bytes"
	"math"
	"math/rand"
	"slices"
	"testing"

	"lavabo/api"
	"lavabo/model"
)

// nothings are numbers next to the edges, and where a narrower kind of number would wrap round: of no client, no handle, and (48 and more) no page.
var nothings = []int{-1, -2, -6, -7, -48, -256, 6, 7, 8, 36, 48, 49, 64, 127, 128, 255, 256, 257, 1 << 16, 1<<32 - 1, 1 << 32, 1<<32 + 1, -1 << 32, math.MaxInt32, math.MinInt32, math.MaxInt - 1, math.MaxInt, math.MinInt, math.MinInt + 1}

// key is a client's handle.
type key struct{ client, handle int }

// plain is the model told anew from 13.2's words: the bodies of the pages that are there, and of the handles that have a page, which.
type plain struct {
	pages, clients int
	body           map[int][16]byte
	has            map[key]int
}

func newPlain(pages, clients int) *plain {
	return &plain{pages, clients, map[int][16]byte{}, map[key]int{}}
}

func (p *plain) copy() *plain {
	q := newPlain(p.pages, p.clients)
	for page, body := range p.body {
		q.body[page] = body
	}
	for k, page := range p.has {
		q.has[k] = page
	}
	return q
}

// state is the plain one as api tells it.
func (p *plain) state() api.State {
	var s api.State
	for page := range p.pages {
		body, is := p.body[page]
		s.There = append(s.There, is)
		s.Body = append(s.Body, body[:])
	}
	for client := range p.clients {
		row := []int{}
		for handle := range 6 {
			page, is := p.has[key{client, handle}]
			if !is {
				page = -1
			}
			row = append(row, page)
		}
		s.Handles = append(s.Handles, row)
	}
	return s
}

// free is the client's least handle that is -1; false: none.
func (p *plain) free(client int) (key, bool) {
	for handle := range 6 {
		if _, is := p.has[key{client, handle}]; !is {
			return key{client, handle}, true
		}
	}
	return key{}, false
}

func (p *plain) pins(page int) int {
	n := 0
	for _, has := range p.has {
		if has == page {
			n++
		}
	}
	return n
}

// do makes a call, and tells what it tells.
func (p *plain) do(client int, op api.Op) api.Res {
	if client < 0 || client >= p.clients {
		return api.Res{Code: api.ErrArg}
	}
	switch op.Kind {
	case api.ONew, api.OFetch:
		return p.pin(client, op)
	case api.ORead, api.OWrite, api.OUnpin:
		return p.use(key{client, op.Handle}, op)
	case api.OFlush, api.ODelete:
		_, there := p.body[op.Page]
		switch {
		case op.Page < 0 || op.Page >= p.pages:
			return api.Res{Code: api.ErrArg}
		case !there:
			return api.Res{Code: api.ErrNone}
		case op.Kind == api.ODelete && p.pins(op.Page) > 0:
			return api.Res{Code: api.ErrPinned}
		case op.Kind == api.ODelete:
			delete(p.body, op.Page)
		}
		return api.Res{}
	case api.OFlushAll:
		return api.Res{}
	}
	return api.Res{Code: api.ErrArg}
}

// pin is ONew and OFetch.
func (p *plain) pin(client int, op api.Op) api.Res {
	k, free := p.free(client)
	page := op.Page
	if op.Kind == api.ONew {
		page = 0
		for _, there := p.body[page]; there; _, there = p.body[page] {
			page++
		}
		switch {
		case !free:
			return api.Res{Code: api.ErrHandles}
		case page == p.pages:
			return api.Res{Code: api.ErrPages}
		}
		p.body[page] = [16]byte{}
	} else {
		_, there := p.body[page]
		switch {
		case page < 0 || page >= p.pages:
			return api.Res{Code: api.ErrArg}
		case !there:
			return api.Res{Code: api.ErrNone}
		case !free:
			return api.Res{Code: api.ErrHandles}
		}
	}
	p.has[k] = page
	return api.Res{Page: page, Handle: k.handle}
}

// use is ORead, OWrite and OUnpin.
func (p *plain) use(k key, op api.Op) api.Res {
	page, is := p.has[k]
	if !is {
		return api.Res{Code: api.ErrHandle}
	}
	if op.Kind == api.OUnpin {
		delete(p.has, k)
		return api.Res{}
	}
	var places []int // of the bytes that are read or written; none: out of range
	n := op.N
	if op.Kind == api.OWrite {
		n = len(op.Data)
	}
	if op.Off < 0 || op.Off > 16 || n < 0 || n > 16 || op.Off+n > 16 {
		return api.Res{Code: api.ErrRange}
	}
	for k := range n {
		places = append(places, op.Off+k)
	}
	var res api.Res
	body := p.body[page]
	for k, at := range places {
		if op.Kind == api.OWrite {
			body[at] = op.Data[k]
		} else {
			res.Data = append(res.Data, body[at])
		}
	}
	p.body[page] = body
	return res
}

// deep is a copy of a state, made apart from the program.
func deep(s api.State) api.State {
	n := api.State{There: append([]bool(nil), s.There...)}
	for _, body := range s.Body {
		n.Body = append(n.Body, append([]byte(nil), body...))
	}
	for _, own := range s.Handles {
		n.Handles = append(n.Handles, append([]int(nil), own...))
	}
	return n
}

// alike is Same, told apart from the program.
func alike(a, b api.State) bool {
	return slices.Equal(a.There, b.There) && slices.EqualFunc(a.Body, b.Body, bytes.Equal) && slices.EqualFunc(a.Handles, b.Handles, slices.Equal)
}

func alikeRes(a, b api.Res) bool {
	return a.Code == b.Code && a.Page == b.Page && a.Handle == b.Handle && bytes.Equal(a.Data, b.Data)
}

// do makes a call on a state, holds what it tells against want, and holds that the state handed in stays, and stays whole with an error.
func do(t *testing.T, s api.State, client int, op api.Op, want api.Res) api.State {
	t.Helper()
	was, data := deep(s), bytes.Clone(op.Data)
	n, r := model.Do(s, client, op)
	if !alikeRes(r, want) {
		t.Fatalf("Do(%v, %d, %v) tells %v, want %v", s, client, op, r, want)
	}
	if !alike(s, was) || !bytes.Equal(op.Data, data) {
		t.Fatalf("Do(.., %d, %v) changed what was handed in: %v, was %v", client, op, s, was)
	}
	if r.Code != 0 && !alike(n, was) {
		t.Fatalf("Do(.., %d, %v) = %v, tells %d, and the state was %v", client, op, n, r.Code, was)
	}
	return n
}

// both makes a call on a state and on the plain one.
func both(t *testing.T, s api.State, p *plain, client int, op api.Op) api.State {
	t.Helper()
	n := do(t, s, client, op, p.do(client, op))
	if want := p.state(); !alike(n, want) {
		t.Fatalf("Do(%v, %d, %v) = %v, want %v", s, client, op, n, want)
	}
	if !model.May(n) {
		t.Fatalf("May(%v) is false", n)
	}
	return n
}

func fails(code int) api.Res { return api.Res{Code: code} }

// Short words for the calls.
func oNew() api.Op                    { return api.Op{Kind: api.ONew} }
func oFetch(page int) api.Op          { return api.Op{Kind: api.OFetch, Page: page} }
func oRead(handle, off, n int) api.Op { return api.Op{Kind: api.ORead, Handle: handle, Off: off, N: n} }
func oWrite(handle, off int, d string) api.Op {
	return api.Op{Kind: api.OWrite, Handle: handle, Off: off, Data: []byte(d)}
}
func oUnpin(handle int) api.Op        { return api.Op{Kind: api.OUnpin, Handle: handle} }
func oFlush(page int) api.Op          { return api.Op{Kind: api.OFlush, Page: page} }
func oFlushAll() api.Op               { return api.Op{Kind: api.OFlushAll} }
func oDelete(page int) api.Op         { return api.Op{Kind: api.ODelete, Page: page} }
func pinned(page, handle int) api.Res { return api.Res{Page: page, Handle: handle} }
func have(d string) api.Res           { return api.Res{Data: []byte(d)} }

// full is a state whose pages are all there, page n full of the byte n + 1, and nobody has one.
func full(t *testing.T, pages, clients int) (api.State, *plain) {
	t.Helper()
	s, p := model.New(pages, clients), newPlain(pages, clients)
	for page := range pages {
		s = both(t, s, p, 0, oNew())
		s = both(t, s, p, 0, oWrite(0, 0, string(bytes.Repeat([]byte{byte(page + 1)}, 16))))
		s = both(t, s, p, 0, oUnpin(0))
	}
	return s, p
}

// 13.1: of 1 to 48 pages and 1 to 6 clients: none is there, zeros, handles of -1.
func TestNew(t *testing.T) {
	for pages := 1; pages <= 48; pages++ {
		for clients := 1; clients <= 6; clients++ {
			s := model.New(pages, clients)
			if !alike(s, newPlain(pages, clients).state()) || !model.May(s) || !model.Same(s, s) {
				t.Fatalf("New(%d, %d) = %v", pages, clients, s)
			}
			for page := -1; page <= 48; page++ {
				if n := model.Pins(s, page); n != 0 {
					t.Fatalf("%d pins of %d in New(%d, %d)", n, page, pages, clients)
				}
			}
		}
	}
}

// 13.1: of other numbers: the zero State, which may not be.
func TestNewOfNone(t *testing.T) {
	zero := func(pages, clients int) {
		t.Helper()
		s := model.New(pages, clients)
		if s.There != nil || s.Body != nil || s.Handles != nil || model.May(s) {
			t.Errorf("New(%d, %d) = %v", pages, clients, s)
		}
	}
	for _, n := range append(slices.Clone(nothings), 0) {
		for _, m := range append(slices.Clone(nothings), 0, 1, 5) {
			if n < 1 || n > 48 {
				zero(n, m)
				zero(n, 1)
				zero(n, 6)
			}
			if n < 1 || n > 6 {
				zero(m, n)
				zero(1, n)
				zero(48, n)
			}
		}
	}
}

// some is a state of three pages, 0 and 2 of which are there, and of two clients.
func some() api.State {
	p := newPlain(3, 2)
	p.body[0], p.body[2] = [16]byte{1, 2, 3}, [16]byte{15: 9}
	p.has[key{0, 1}], p.has[key{1, 5}], p.has[key{1, 0}] = 0, 2, 2
	return p.state()
}

// 13.1: what may be, at the edges.
func TestMay(t *testing.T) {
	for i, f := range []func(s *api.State){
		func(s *api.State) {},
		func(s *api.State) { s.Body[0] = make([]byte, 16) },
		func(s *api.State) { s.Body[0] = bytes.Repeat([]byte{255}, 16) },
		func(s *api.State) { s.Handles[0] = []int{2, 2, 2, 2, 2, 2} },
		func(s *api.State) { s.Handles[0] = []int{0, 2, 0, -1, 0, 2}; s.Handles[1] = slices.Clone(s.Handles[0]) },
		func(s *api.State) { s.Handles = s.Handles[:1] },
		func(s *api.State) { s.Handles = s.Handles[1:] },
		func(s *api.State) { s.There[1] = true },
		func(s *api.State) { s.There[1] = true; s.Body[1][15] = 1; s.Handles[1][3] = 1 },
		func(s *api.State) { s.Body[0] = slices.Grow(s.Body[0], 99) },
		func(s *api.State) { s.Body[1] = bytes.Repeat([]byte{0}, 17)[:16] },
		func(s *api.State) {
			for range 4 {
				s.Handles = append(s.Handles, s.Handles[1])
			}
		},
		func(s *api.State) {
			for range 45 {
				s.There, s.Body = append(s.There, true), append(s.Body, s.Body[2])
			}
			s.Handles[0][0] = 47
		},
	} {
		s := some()
		f(&s)
		was := deep(s)
		if !model.May(s) || !alike(s, was) {
			t.Errorf("%d: May(%v) is false", i, s)
		}
		do(t, s, 0, oFlushAll(), api.Res{})
	}
}

// ways are the ways in which a state that may be is spoilt.
func ways() []func(s *api.State) {
	l := []func(s *api.State){
		func(s *api.State) { *s = api.State{} },
		func(s *api.State) { s.There = nil },
		func(s *api.State) { s.There = s.There[:2] },
		func(s *api.State) { s.There = append(s.There, false) },
		func(s *api.State) { s.There = append(s.There, true) },
		func(s *api.State) { s.Body = nil },
		func(s *api.State) { s.Body = s.Body[:2] },
		func(s *api.State) { s.Body = append(s.Body, make([]byte, 16)) },
		func(s *api.State) { s.Body = append(s.Body, nil) },
		func(s *api.State) { s.There, s.Body, s.Handles = nil, nil, [][]int{{-1, -1, -1, -1, -1, -1}} },
		func(s *api.State) {
			s.There, s.Body, s.Handles = []bool{}, [][]byte{}, [][]int{{-1, -1, -1, -1, -1, -1}}
		},
		func(s *api.State) { s.Handles = nil },
		func(s *api.State) { s.Handles = [][]int{} },
		func(s *api.State) { s.Handles = [][]int{{}} },
		func(s *api.State) { s.Handles = append(s.Handles, nil) },
		func(s *api.State) { s.There[0] = false },
		func(s *api.State) { s.There[0], s.Body[0] = false, make([]byte, 16) },
		func(s *api.State) { s.There[0], s.Handles[0][1] = false, -1 },
		func(s *api.State) { s.There[2], s.Body[2] = false, make([]byte, 16); s.Handles[1][0] = -1 },
		func(s *api.State) { s.There[2], s.Handles[1] = false, slices.Repeat([]int{-1}, 6) },
		func(s *api.State) {
			for range 5 {
				s.Handles = append(s.Handles, slices.Repeat([]int{-1}, 6))
			}
		},
		func(s *api.State) {
			for range 46 {
				s.There, s.Body = append(s.There, false), append(s.Body, make([]byte, 16))
			}
		},
		func(s *api.State) {
			for range 10000 {
				s.There, s.Body = append(s.There, true), append(s.Body, make([]byte, 16))
			}
		},
	}
	for page := range 3 {
		for _, body := range [][]byte{nil, {}, {0}, make([]byte, 15), make([]byte, 17), make([]byte, 24), make([]byte, 32), make([]byte, 256+16)} {
			l = append(l, func(s *api.State) { s.Body[page] = body })
		}
	}
	for at := range 16 {
		for _, c := range []byte{1, 2, 127, 128, 255} {
			l = append(l, func(s *api.State) { s.Body[1][at] = c })
		}
	}
	for client := range 2 {
		l = append(l,
			func(s *api.State) { s.Handles[client] = s.Handles[client][:5] },
			func(s *api.State) { s.Handles[client] = append(s.Handles[client], -1) },
			func(s *api.State) { s.Handles[client] = append(s.Handles[client], 0) },
			func(s *api.State) { s.Handles[client] = nil })
		for handle := range 6 {
			for _, n := range append([]int{1, 3, 4}, nothings[1:]...) {
				l = append(l, func(s *api.State) { s.Handles[client][handle] = n })
			}
		}
	}
	return l
}

// 13.1, 13.2: what may not be, by each of 13.1's words; of it every call is ErrArg, and it stays as it is.
func TestMayNot(t *testing.T) {
	for i, f := range ways() {
		s := some()
		f(&s)
		was := deep(s)
		if model.May(s) || !alike(s, was) {
			t.Errorf("%d: May(%v) is true", i, s)
		}
		for kind := 0; kind <= 9; kind++ {
			for _, client := range []int{0, 1, -1, 2, 9} {
				n := do(t, s, client, api.Op{Kind: kind, Handle: 1, Data: []byte{1}}, fails(api.ErrArg))
				if !model.Same(n, s) || !model.Same(s, n) {
					t.Fatal(i, "not as it is:", n, s)
				}
			}
		}
	}
}

// 13.1: Pins counts the handles of all clients that have a page; those that are -1 have none.
func TestPins(t *testing.T) {
	s := model.New(4, 6)
	if !alike(s, newPlain(4, 6).state()) {
		t.Fatal(s)
	}
	s.There[0], s.There[3] = true, true
	n := 0
	for handle := range 6 {
		for client := 5; client >= 0; client-- {
			for page, want := range []int{n / 2, 0, 0, (n + 1) / 2, 0} {
				if got := model.Pins(s, page); got != want {
					t.Fatalf("Pins(%v, %d) = %d, want %d", s, page, got, want)
				}
			}
			for _, page := range nothings {
				if got := model.Pins(s, page); got != 0 {
					t.Fatalf("Pins(%v, %d) = %d", s, page, got)
				}
			}
			s.Handles[client][handle] = 3 - n%2*3
			n++
		}
	}
	for _, own := range s.Handles {
		for handle := range own {
			own[handle] = 3
		}
	}
	if got := model.Pins(s, 3); got != 36 {
		t.Fatal(got)
	}
	if model.Pins(api.State{}, 0) != 0 || model.Pins(api.State{}, -1) != 0 {
		t.Fatal("pins in nothing")
	}
}

// 13.2: the document's example.
func TestExample(t *testing.T) {
	for pages := 1; pages <= 48; pages++ {
		s, p := model.New(pages, 1), newPlain(pages, 1)
		do(t, s, 0, oNew(), pinned(0, 0))
		both(t, s, p, 0, oNew())
	}
}

// 13.2: ErrArg of no such client and of no such Kind, whatever else is asked.
func TestDoOfNone(t *testing.T) {
	for clients := 1; clients <= 6; clients++ {
		s, p := full(t, 2, clients)
		s = both(t, s, p, clients-1, oNew())
		s = both(t, s, p, clients-1, oFetch(1))
		for kind := -1; kind <= 10; kind++ {
			for _, client := range append([]int{clients}, nothings...) {
				do(t, s, client, api.Op{Kind: kind}, fails(api.ErrArg))
			}
		}
		for _, kind := range append([]int{0, 9, 10, 11, 12, 16, -8}, nothings...) {
			if kind < 1 || kind > 8 {
				for client := range clients {
					do(t, s, client, api.Op{Kind: kind}, fails(api.ErrArg))
					do(t, s, client, api.Op{Kind: kind, Page: 1, Data: []byte{1}}, fails(api.ErrArg))
				}
			}
		}
	}
}

// 13.2: parts of op that its Kind has not are not asked.
func TestPartsNotAsked(t *testing.T) {
	s, p := full(t, 5, 2)
	s = both(t, s, p, 1, oFetch(3))
	s = both(t, s, p, 0, oDelete(4))
	long := make([]byte, 99)
	for _, n := range append([]int{0, 1, 3}, nothings...) {
		for op, want := range map[*api.Op]api.Res{
			{Kind: api.ONew, Page: n, Handle: n, Off: n, N: n, Data: long}:               pinned(4, 1),
			{Kind: api.OFetch, Page: 2, Handle: n, Off: n, N: n, Data: long}:             pinned(2, 1),
			{Kind: api.ORead, Page: n, Off: 14, N: 2, Data: long}:                        have("\x04\x04"),
			{Kind: api.OWrite, Page: n, Off: 14, N: n, Data: []byte("ab")}:               {},
			{Kind: api.OUnpin, Page: n, Off: n, N: n, Data: long}:                        {},
			{Kind: api.OFlush, Page: 2, Handle: n, Off: n, N: n, Data: long}:             {},
			{Kind: api.OFlushAll, Page: n, Handle: n, Off: n, N: n, Data: long}:          {},
			{Kind: api.ODelete, Page: 2, Handle: n, Off: n, N: n, Data: long}:            {},
			{Kind: api.OFlush, Page: 4, Handle: n, Off: n, N: n, Data: long}:             fails(api.ErrNone),
			{Kind: api.ODelete, Page: 3, Handle: n, Off: n, N: n, Data: long}:            fails(api.ErrPinned),
			{Kind: api.ORead, Page: 3, Handle: 1, Off: 1, N: 1, Data: long}:              fails(api.ErrHandle),
			{Kind: api.OWrite, Page: 3, Handle: 1, Off: 1, N: n, Data: []byte{1}}:        fails(api.ErrHandle),
			{Kind: api.OWrite, Page: 3, Handle: 0, Off: 16, N: n, Data: []byte{1}}:       fails(api.ErrRange),
			{Kind: api.OUnpin, Page: 3, Handle: 1, Off: n, N: n, Data: make([]byte, 16)}: fails(api.ErrHandle),
		} {
			do(t, s, 1, *op, want)
			both(t, s, p.copy(), 1, *op)
		}
	}
}

// 13.2, ONew: the least page that is not there, whichever are, of zeros; the least handle that is -1, whichever are.
func TestNewLeast(t *testing.T) {
	for bits := range 64 { // pages that are not there
		for handles := range 64 { // handles that are -1
			s, p := full(t, 6, 2)
			for page := range 6 {
				if bits>>page&1 == 1 {
					s = both(t, s, p, 1, oDelete(page))
				}
			}
			for k := range 6 {
				if handles>>k&1 == 0 && bits != 63 {
					s.Handles[1][k] = slices.Index(s.There, true)
					p.has[key{1, k}] = s.Handles[1][k]
				}
			}
			s = both(t, s, p, 1, oNew())
			s = both(t, s, p, 1, oNew())
			both(t, s, p, 0, oNew())
		}
	}
}

// 13.2, ONew: ErrHandles ahead of ErrPages.
func TestNewErrors(t *testing.T) {
	s, p := full(t, 7, 2)
	do(t, s, 0, oNew(), fails(api.ErrPages))
	do(t, s, 1, oNew(), fails(api.ErrPages))
	for range 6 {
		s = both(t, s, p, 0, oFetch(3))
	}
	do(t, s, 0, oNew(), fails(api.ErrHandles))
	do(t, s, 1, oNew(), fails(api.ErrPages))
	s = both(t, s, p, 0, oDelete(6))
	do(t, s, 0, oNew(), fails(api.ErrHandles))
	s = do(t, s, 1, oNew(), pinned(6, 0))
	if model.Pins(s, 6) != 1 || s.Handles[1][0] != 6 || !s.There[6] {
		t.Fatal(s)
	}
	do(t, s, 1, oRead(0, 0, 16), have(string(make([]byte, 16))))
}

// 13.2: all pages come to be there, in turn, and then ErrPages.
func TestNewAll(t *testing.T) {
	for _, pages := range []int{1, 2, 7, 47, 48} {
		s, p := model.New(pages, 6), newPlain(pages, 6)
		for page := range pages {
			s = both(t, s, p, page%6, oNew())
			s = both(t, s, p, page%6, oUnpin(0))
		}
		do(t, s, 0, oNew(), fails(api.ErrPages))
		for page := range pages {
			n := do(t, s, 3, oDelete(page), api.Res{})
			do(t, n, 3, oNew(), pinned(page, 0))
		}
	}
}

// 13.2, OFetch: ErrArg, ErrNone, ErrHandles, in that turn; the least handle, time after time.
func TestFetch(t *testing.T) {
	for _, pages := range []int{1, 3, 47, 48} {
		s, p := full(t, pages, 3)
		s = both(t, s, p, 2, oDelete(0))
		for k := range 7 {
			for _, page := range append([]int{pages, pages + 1}, nothings...) {
				if page < 0 || page >= pages {
					do(t, s, 1, oFetch(page), fails(api.ErrArg))
				}
			}
			do(t, s, 1, oFetch(0), fails(api.ErrNone))
			switch {
			case pages == 1:
			case k < 6:
				do(t, s, 1, oFetch(pages-1), pinned(pages-1, k))
				s = both(t, s, p, 1, oFetch(1+k%(pages-1)))
			default:
				do(t, s, 1, oFetch(pages-1), fails(api.ErrHandles))
				do(t, s, 2, oFetch(pages-1), pinned(pages-1, 0))
			}
		}
	}
}

// 13.2, ORead: ErrHandle ahead of ErrRange; of all places and counts the bytes that stand there.
func TestRead(t *testing.T) {
	s, p := full(t, 3, 2)
	s = both(t, s, p, 1, oFetch(2))
	s = both(t, s, p, 1, oFetch(1))
	s = both(t, s, p, 1, oWrite(1, 0, "abcdefghijklmnop"))
	s = both(t, s, p, 1, oUnpin(0))
	far := slices.Concat(nothings, []int{math.MinInt + 15, math.MinInt + 16, math.MaxInt - 15, math.MaxInt - 16, math.MaxInt - 17})
	for off := -2; off <= 18; off++ {
		for n := -2; n <= 18; n++ {
			both(t, s, p, 1, oRead(1, off, n))
			do(t, s, 1, oRead(0, off, n), fails(api.ErrHandle))
			do(t, s, 0, oRead(1, off, n), fails(api.ErrHandle))
			if off >= 0 && n >= 0 && off+n <= 16 {
				do(t, s, 1, oRead(1, off, n), have("abcdefghijklmnop"[off:off+n]))
			} else {
				do(t, s, 1, oRead(1, off, n), fails(api.ErrRange))
			}
		}
		for _, n := range far {
			both(t, s, p, 1, oRead(1, off, n))
			both(t, s, p, 1, oRead(1, n, off))
		}
	}
	for _, off := range far {
		for _, n := range far {
			both(t, s, p, 1, oRead(1, off, n))
			do(t, s, 1, oRead(2, off, n), fails(api.ErrHandle))
		}
		do(t, s, 1, oRead(off, 0, 1), fails(api.ErrHandle))
		do(t, s, 1, oRead(off, -1, 99), fails(api.ErrHandle))
	}
}

// 13.2, OWrite: ErrHandle ahead of ErrRange; at all places all lengths of bytes, and no other byte and page.
func TestWrite(t *testing.T) {
	s, p := full(t, 3, 2)
	s = both(t, s, p, 1, oFetch(2))
	s = both(t, s, p, 1, oFetch(1))
	s = both(t, s, p, 1, oUnpin(0))
	long := make([]byte, 300)
	for k := range long {
		long[k] = byte(200 + k%50)
	}
	for _, off := range slices.Concat(nothings, []int{-3, 0, 1, 2, 3, 4, 5, 9, 10, 11, 12, 13, 14, 15, 16, 17, 18, math.MaxInt - 15, math.MinInt + 16}) {
		for _, n := range []int{0, 1, 2, 3, 4, 5, 8, 12, 13, 14, 15, 16, 17, 18, 32, 255, 256, 257, 272, 300} {
			op := api.Op{Kind: api.OWrite, Handle: 1, Off: off, Data: long[:n]}
			r := both(t, s, p.copy(), 1, op)
			if off >= 0 && n <= 16-off {
				do(t, r, 1, oRead(1, off, n), have(string(long[:n])))
			} else {
				do(t, s, 1, op, fails(api.ErrRange))
			}
			op.Handle = 0
			do(t, s, 1, op, fails(api.ErrHandle))
			do(t, s, 0, op, fails(api.ErrHandle))
		}
		op := oWrite(off, 0, "a")
		if off != 1 {
			do(t, s, 1, op, fails(api.ErrHandle))
			op.Off = 17
			do(t, s, 1, op, fails(api.ErrHandle))
		}
	}
	do(t, s, 1, api.Op{Kind: api.OWrite, Handle: 1, Off: 16, Data: []byte{}}, api.Res{})
	do(t, s, 1, api.Op{Kind: api.OWrite, Handle: 1, Off: 17}, fails(api.ErrRange))
}

// 13.2: what one client writes the others read, by whatever handle.
func TestWriteIsThere(t *testing.T) {
	s, p := full(t, 4, 6)
	for client := range 6 {
		for range client {
			s = both(t, s, p, client, oFetch(0))
		}
		s = both(t, s, p, client, oFetch(3))
	}
	for client := range 6 {
		if client < 5 {
			s = both(t, s, p, client, oFetch(3))
		}
		s = both(t, s, p, client, oWrite(client, client, "xyz"))
		for reader := range 6 {
			both(t, s, p, reader, oRead(reader, 0, 16))
			if reader > 0 {
				both(t, s, p, reader, oRead(0, 0, 16))
			}
		}
	}
}

// 13.2, OUnpin: ErrHandle; only that handle of that client is -1, and no page changes.
func TestUnpin(t *testing.T) {
	for client := range 6 {
		for handle := range 6 {
			s, p := full(t, 2, 6)
			for k := range 36 {
				s = both(t, s, p, k%6, oFetch(k%2))
			}
			page := s.Handles[client][handle]
			was := model.Pins(s, page)
			s = both(t, s, p, client, oUnpin(handle))
			if s.Handles[client][handle] != -1 || model.Pins(s, page) != was-1 {
				t.Fatal(s)
			}
			do(t, s, client, oUnpin(handle), fails(api.ErrHandle))
			for _, k := range nothings {
				do(t, s, client, oUnpin(k), fails(api.ErrHandle))
			}
			do(t, s, client, oFetch(1), pinned(1, handle))
		}
	}
}

// 13.2, OFlush, OFlushAll: ErrArg, ErrNone; 0, and nothing changes.
func TestFlush(t *testing.T) {
	for _, pages := range []int{1, 5, 48} {
		s, p := full(t, pages, 2)
		s = both(t, s, p, 0, oFetch(pages/2))
		s = both(t, s, p, 1, oDelete(pages-1))
		for page := -2; page <= 50; page++ {
			if n := both(t, s, p, 1, oFlush(page)); !alike(n, s) {
				t.Fatal(n)
			}
		}
		for _, page := range nothings {
			if page < 0 || page >= pages {
				do(t, s, 0, oFlush(page), fails(api.ErrArg))
			}
		}
		if n := both(t, s, p, 0, oFlushAll()); !alike(n, s) {
			t.Fatal(n)
		}
		do(t, model.New(pages, 2), 0, oFlushAll(), api.Res{})
		do(t, model.New(pages, 2), 0, oFlush(0), fails(api.ErrNone))
		do(t, model.New(pages, 2), 0, oFlush(pages), fails(api.ErrArg))
	}
}

// 13.2, ODelete: ErrArg, ErrNone, ErrPinned whoever has it; then it is not there, and its Body of zeros.
func TestDelete(t *testing.T) {
	for _, pages := range []int{1, 5, 48} {
		s, p := full(t, pages, 6)
		for page := range pages {
			n, q := both(t, s, p, 2, oFlushAll()), p.copy()
			for client := range 6 {
				for handle := range 6 { // one handle alone has it
					m := deep(n)
					m.Handles[client][handle] = page
					for other := range 6 {
						do(t, m, other, oDelete(page), fails(api.ErrPinned))
					}
				}
			}
			n = both(t, n, q, page%6, oDelete(page))
			if n.There[page] || !bytes.Equal(n.Body[page], make([]byte, 16)) {
				t.Fatal(n)
			}
			do(t, n, 1, oDelete(page), fails(api.ErrNone))
			do(t, n, 1, oFetch(page), fails(api.ErrNone))
			n = both(t, n, q, 1, oNew())
			do(t, n, 1, oRead(0, 0, 16), have(string(make([]byte, 16))))
		}
		for _, page := range append([]int{pages, pages + 1}, nothings...) {
			if page < 0 || page >= pages {
				do(t, s, 0, oDelete(page), fails(api.ErrArg))
			}
		}
	}
}

// 13.2: all runs of four calls of two clients on two pages, from some states, beside the plain one.
func TestAllRuns(t *testing.T) {
	type call struct {
		client int
		op     api.Op
	}
	calls := []call{{0, oNew()}, {1, oNew()}, {0, oFetch(0)}, {0, oFetch(1)}, {1, oFetch(1)}, {0, oWrite(0, 3, "ab")}, {0, oWrite(1, 14, "cd")}, {1, oWrite(0, 4, "e")}, {0, oRead(0, 2, 4)}, {1, oRead(0, 0, 16)}, {0, oUnpin(0)}, {0, oUnpin(1)}, {1, oUnpin(0)}, {0, oFlush(1)}, {1, oFlushAll()}, {0, oDelete(0)}, {1, oDelete(1)}}
	var runs func(s api.State, p *plain, left int)
	runs = func(s api.State, p *plain, left int) {
		for _, c := range calls {
			q := p.copy()
			if n := both(t, s, q, c.client, c.op); left > 1 {
				runs(n, q, left-1)
			}
		}
	}
	runs(model.New(2, 2), newPlain(2, 2), 4)
	s, p := full(t, 2, 2)
	for range 5 {
		s = both(t, s, p, 0, oFetch(1))
	}
	runs(s, p, 3)
	s, p = full(t, 1, 2)
	runs(s, p, 3)
}

// chance is a call by chance: mostly of what is there.
func chance(c *rand.Rand, p *plain) (int, api.Op) {
	client := c.Intn(p.clients)
	if c.Intn(40) == 0 {
		client = c.Intn(10) - 2
	}
	op := api.Op{Kind: 1 + c.Intn(8), Page: c.Intn(p.pages), Handle: c.Intn(6), Off: c.Intn(16)}
	op.N = c.Intn(18 - op.Off)
	for range c.Intn(18 - op.Off) {
		op.Data = append(op.Data, byte(c.Intn(256)))
	}
	switch c.Intn(30) {
	case 0:
		op.Kind = c.Intn(12) - 1
	case 1:
		op.Page = c.Intn(60) - 5
	case 2:
		op.Handle = c.Intn(12) - 3
	case 3:
		op.Off = c.Intn(40) - 10
	case 4:
		op.N = c.Intn(40) - 10
	}
	return client, op
}

// 13.2: long lives, by chance, beside the plain one.
func TestLives(t *testing.T) {
	c := rand.New(rand.NewSource(130))
	told := map[int]int{}
	for range 150 {
		pages, clients := 1+c.Intn(48), 1+c.Intn(6)
		if c.Intn(2) == 0 {
			pages = 1 + c.Intn(5)
		}
		s, p := model.New(pages, clients), newPlain(pages, clients)
		for range 400 {
			client, op := chance(c, p)
			s = both(t, s, p, client, op)
			page := c.Intn(pages+2) - 1
			if got := model.Pins(s, page); got != p.pins(page) {
				t.Fatalf("Pins(%v, %d) = %d", s, page, got)
			}
			told[p.copy().do(client, op).Code]++
		}
	}
	for code := api.OK; code <= api.ErrPinned; code++ {
		if told[code] == 0 {
			t.Errorf("no life told %d", code)
		}
	}
}

// spoil writes over all of a state, and behind its lists' ends, too.
func spoil(s api.State) {
	for _, body := range s.Body {
		body = body[:cap(body)]
		for k := range body {
			body[k] ^= 0xA5
		}
	}
	for _, own := range s.Handles {
		own = own[:cap(own)]
		for k := range own {
			own[k] += 7
		}
	}
	for k := range s.There {
		s.There[k] = !s.There[k]
	}
	clear(s.Body[:cap(s.Body)])
	clear(s.Handles[:cap(s.Handles)])
}

// unshared holds that no two lists of a state share anything: what is written to one, behind its end, too, is seen in no other.
func unshared(t *testing.T, s api.State) {
	t.Helper()
	was := deep(s)
	for page, body := range s.Body {
		body = body[:cap(body)]
		for k := range body {
			body[k] ^= 0xA5
		}
		for k := range s.Body {
			if k != page && !bytes.Equal(s.Body[k], was.Body[k]) {
				t.Fatalf("bodies %d and %d share", page, k)
			}
		}
		copy(body, was.Body[page])
	}
	for client, own := range s.Handles {
		own = own[:cap(own)]
		for k := range own {
			own[k] += 7
		}
		for k := range s.Handles {
			if k != client && !slices.Equal(s.Handles[k], was.Handles[k]) {
				t.Fatalf("handles of %d and %d share", client, k)
			}
		}
		copy(own, was.Handles[client])
	}
}

// Rule 2: what New and Do answer is the caller's own, with each call, with an error, too.
func TestAnswersAreTheCallers(t *testing.T) {
	unshared(t, model.New(48, 6))
	a, b := model.New(3, 2), model.New(3, 2)
	spoil(a)
	if !alike(b, newPlain(3, 2).state()) || !alike(model.New(3, 2), b) {
		t.Fatal("two answers share", b)
	}
	s := some()
	for kind := 0; kind <= 9; kind++ {
		for page := -1; page <= 3; page++ {
			for handle := -1; handle <= 6; handle++ {
				was := deep(s)
				op := api.Op{Kind: kind, Page: page, Handle: handle, Off: 1, N: 9, Data: []byte("abcdefgh")}
				n, r := model.Do(s, 1, op)
				unshared(t, n)
				right := deep(n)
				data := bytes.Clone(r.Data)
				for k := range op.Data {
					op.Data[k] = '-'
				}
				for k := range r.Data[:cap(r.Data)] {
					r.Data[:cap(r.Data)][k] ^= 0xA5
				}
				if !alike(n, right) || !alike(s, was) {
					t.Fatal(op, "shares its data", n)
				}
				op.Data = []byte("abcdefgh")
				m, q := model.Do(s, 1, op)
				spoil(n)
				if !alike(s, was) || !alike(m, right) || !bytes.Equal(q.Data, data) {
					t.Fatal(op, "shares its state", s, m, q)
				}
				o := deep(s)
				m, q = model.Do(o, 1, op)
				spoil(o)
				if !alike(m, right) || !bytes.Equal(q.Data, data) {
					t.Fatal(op, "keeps what was handed in", m, q)
				}
			}
		}
	}
}

// Rule 2: of a state that may not be, the answer is its caller's own, too.
func TestWrongStatesAreTheCallers(t *testing.T) {
	for i, f := range ways() {
		s := some()
		f(&s)
		was := deep(s)
		n, _ := model.Do(s, 0, oNew())
		unshared(t, n)
		spoil(n)
		if !alike(s, was) {
			t.Fatal(i, s)
		}
	}
}

// Rule 2: lists handed in may share among themselves, and with what is written: by a call one page alone changes.
func TestSharedIsTaken(t *testing.T) {
	body, own := []byte("0123456789abcdef"), []int{1, 0, -1, -1, -1, -1}
	s := api.State{There: []bool{true, true}, Body: [][]byte{body, body}, Handles: [][]int{own, own}}
	p := newPlain(2, 2)
	p.body[0], p.body[1] = [16]byte(body), [16]byte(body)
	for client := range 2 {
		p.has[key{client, 0}], p.has[key{client, 1}] = 1, 0
	}
	both(t, s, p.copy(), 0, oWrite(0, 3, "xy"))
	both(t, s, p.copy(), 0, api.Op{Kind: api.OWrite, Off: 4, Data: body[1:9]})
	both(t, s, p.copy(), 1, oUnpin(1))
	both(t, s, p.copy(), 1, oFetch(0))
	s.Handles[0] = []int{1, -1, -1, -1, -1, -1}
	s.Handles[1] = s.Handles[0]
	delete(p.has, key{0, 1})
	delete(p.has, key{1, 1})
	both(t, s, p.copy(), 1, oDelete(0))
	none := make([]byte, 16)
	s = api.State{There: []bool{false, false}, Body: [][]byte{none, none}, Handles: [][]int{slices.Repeat([]int{-1}, 6)}}
	p = newPlain(2, 1)
	s = both(t, s, p, 0, oNew())
	both(t, s, p, 0, oWrite(0, 0, "x"))
}

// 13.2: two states are the same where all parts are.
func TestSame(t *testing.T) {
	same := func(a, b api.State, want bool) {
		t.Helper()
		x, y := deep(a), deep(b)
		if model.Same(a, b) != want || model.Same(b, a) != want {
			t.Errorf("Same(%v, %v) is not %v", a, b, want)
		}
		if !alike(a, x) || !alike(b, y) {
			t.Error("changed what was handed in")
		}
	}
	for _, f := range ways() {
		s := some()
		f(&s)
		same(s, some(), false)
		same(s, deep(s), true)
	}
	same(some(), some(), true)
	for page := range 3 {
		s := some()
		s.There[page] = !s.There[page]
		same(s, some(), false)
		for at := range 16 {
			s = some()
			s.Body[page][at] ^= 128
			same(s, some(), false)
		}
	}
	for client := range 2 {
		for handle := range 6 {
			s := some()
			s.Handles[client][handle] += 1 << 32
			same(s, some(), false)
			s.Handles[client][handle] = math.MaxInt
			same(s, deep(s), true)
		}
	}
	for pages := 1; pages <= 7; pages++ {
		for clients := 1; clients <= 6; clients++ {
			same(model.New(pages, clients), model.New(3, 2), pages == 3 && clients == 2)
		}
	}
	same(api.State{}, api.State{There: []bool{}, Body: [][]byte{}, Handles: [][]int{}}, true)
	same(api.State{Body: [][]byte{nil}, Handles: [][]int{nil}}, api.State{Body: [][]byte{{}}, Handles: [][]int{{}}}, true)
	same(api.State{Body: [][]byte{nil}}, api.State{}, false)
	same(api.State{Handles: [][]int{nil}}, api.State{}, false)
	same(api.State{There: []bool{false}}, api.State{}, false)
}

// 13.2: two results are the same where all parts are.
func TestSameRes(t *testing.T) {
	l := []api.Res{{}, {Code: 1}, {Page: 1}, {Handle: 1}, {Data: []byte{0}}, {Data: []byte{1}}, {Data: []byte{0, 0}}, {Data: []byte{0, 1}}, {Data: []byte{1, 0}}, {Code: -1}, {Page: -1}, {Handle: -1}, {Code: 1, Page: 1}, {Code: 1, Page: 1, Handle: 1}, {Page: 1, Handle: 1}, {Code: 1 << 32}, {Page: 1 << 32}, {Handle: 1 << 32}, {Code: math.MaxInt}, {Page: math.MinInt}, {Data: make([]byte, 256)}, {Code: 1, Page: 1, Handle: 1, Data: []byte{1}}}
	for i, a := range l {
		for k, b := range l {
			b.Data = append([]byte{}, b.Data...)
			if model.SameRes(a, b) != (i == k) || model.SameRes(b, a) != (i == k) {
				t.Errorf("SameRes(%v, %v) is not %v", a, b, i == k)
			}
		}
	}
	if !model.SameRes(api.Res{Code: 3}, api.Res{Code: 3, Data: []byte{}}) {
		t.Error("nothing and an empty list")
	}
}

// T1, rule 3: a call is one step, and hangs on its state alone: from one state any calls may be made, in any order, and each tells the same again.
func TestStatesStay(t *testing.T) {
	c := rand.New(rand.NewSource(131))
	for range 60 {
		s, p := model.New(1+c.Intn(4), 2), newPlain(0, 2)
		p.pages = len(s.There)
		var ahead []api.State
		var plains []*plain
		for range 60 {
			ahead, plains = append(ahead, s), append(plains, p.copy())
			client, op := chance(c, p)
			s = both(t, s, p, client, op)
			at := c.Intn(len(ahead))
			client, op = chance(c, p)
			both(t, ahead[at], plains[at].copy(), client, op)
		}
		for k, was := range ahead {
			if !alike(was, plains[k].state()) {
				t.Fatal("a state changed behind its time", was)
			}
		}
	}
}

// 13.3: it is what a pool is, without frames: as many pages as there are may be there, and as many be had as there are handles, and no call tells of frames or of a device.
func TestWithoutFrames(t *testing.T) {
	s, p := full(t, api.MaxPages, api.MaxClients)
	for k := range api.MaxClients * api.MaxHandles { // 36 pages are had at a time: more than there are frames
		s = both(t, s, p, k%6, oFetch(k))
	}
	for page := range api.MaxPages {
		want := 0
		if page < 36 {
			want = 1
			both(t, s, p, page%6, oRead(page/6, 0, 16))
		}
		if got := model.Pins(s, page); got != want {
			t.Fatal(page, got)
		}
	}
	c := rand.New(rand.NewSource(132))
	for range 3000 {
		client, op := chance(c, p)
		n, r := model.Do(s, client, op)
		switch r.Code {
		case api.ErrFull, api.ErrIO, api.ErrCorrupt, api.ErrBlank, api.ErrState, api.ErrHeld:
			t.Fatalf("%v tells %d", op, r.Code)
		}
		s = n
		p.do(client, op)
	}
	if !alike(s, p.state()) {
		t.Fatal(s)
	}
}
