package handle_test

import (
	"math"
	"math/rand"
	"slices"
	"testing"

	"lavabo/handle"
)

// nothings are numbers of no client and of no handle: next to the edges, and where a narrower kind of number would wrap round.
var nothings = []int{-1, -2, -5, -6, -7, -256, 6, 7, 8, 12, 36, 63, 64, 127, 128, 255, 256, 257, 1024, 1 << 16, 1<<32 - 1, 1 << 32, 1<<32 + 1, -1 << 32, -1<<32 + 1, math.MaxInt32, math.MinInt32, math.MaxInt - 1, math.MaxInt, math.MinInt, math.MinInt + 1}

// noPages are numbers of no page: all that are below 0.
var noPages = []int{-1, -2, -3, -6, -48, -128, -256, -1 << 16, math.MinInt32, -1 << 32, -1<<32 + 1, math.MinInt + 1, math.MinInt}

// pages are numbers of pages, up to the greatest: the chapter bars none from 0 on.
var pages = []int{0, 1, 2, 5, 6, 47, 48, 49, 63, 64, 127, 128, 255, 256, 257, 1 << 16, math.MaxInt32, 1 << 31, 1<<32 - 1, 1 << 32, 1<<32 + 1, math.MaxInt - 1, math.MaxInt}

// Short words for the calls: each makes one, and holds what it answers against want.
func give(t *testing.T, h *handle.Handles, client, page, want int) {
	t.Helper()
	if got := h.Give(client, page); got != want {
		t.Fatalf("Give(%d, %d) = %d, want %d", client, page, got, want)
	}
}

func page(t *testing.T, h *handle.Handles, client, k, want int) {
	t.Helper()
	if got := h.Page(client, k); got != want {
		t.Fatalf("Page(%d, %d) = %d, want %d", client, k, got, want)
	}
}

func back(t *testing.T, h *handle.Handles, client, k, want int) {
	t.Helper()
	if got := h.Back(client, k); got != want {
		t.Fatalf("Back(%d, %d) = %d, want %d", client, k, got, want)
	}
}

func pins(t *testing.T, h *handle.Handles, page, want int) {
	t.Helper()
	if got := h.Pins(page); got != want {
		t.Fatalf("Pins(%d) = %d, want %d", page, got, want)
	}
}

func room(t *testing.T, h *handle.Handles, client int, want bool) {
	t.Helper()
	if got := h.Room(client); got != want {
		t.Fatalf("Room(%d) = %v, want %v", client, got, want)
	}
}

// plain is handles told anew from 12.1's words: of each client of handles that have a page, which.
type plain []map[int]int

func newPlain(clients int) plain {
	p := make(plain, clients)
	for client := range p {
		p[client] = map[int]int{}
	}
	return p
}

// has is the page of a handle, -1 of none.
func (p plain) has(client, k int) int {
	if client >= 0 && client < len(p) {
		if page, is := p[client][k]; is {
			return page
		}
	}
	return -1
}

func (p plain) give(client, page int) int {
	if client < 0 || client >= len(p) || page < 0 {
		return -1
	}
	for k := range 6 {
		if p.has(client, k) == -1 {
			p[client][k] = page
			return k
		}
	}
	return -1
}

func (p plain) back(client, k int) int {
	page := p.has(client, k)
	if page != -1 {
		delete(p[client], k)
	}
	return page
}

func (p plain) all() [][]int {
	all := [][]int{}
	for client := range p {
		row := []int{}
		for k := range 6 {
			row = append(row, p.has(client, k))
		}
		all = append(all, row)
	}
	return all
}

func (p plain) pins(page int) int {
	n := 0
	for _, row := range p {
		for _, has := range row {
			if has == page {
				n++
			}
		}
	}
	return n
}

// stands asks everything that may be asked without a step; what the handles have, and these pages, are asked for their pins.
func stands(t *testing.T, h *handle.Handles, p plain, asked ...int) {
	t.Helper()
	all := p.all()
	if got := h.All(); !slices.EqualFunc(got, all, slices.Equal) {
		t.Fatalf("All() = %v, want %v", got, all)
	}
	for client := -1; client <= 7; client++ {
		for k := -1; k <= 7; k++ {
			page(t, h, client, k, p.has(client, k))
		}
		room(t, h, client, client >= 0 && client < len(p) && len(p[client]) < 6)
	}
	for _, row := range append(all, asked) {
		for _, n := range row {
			pins(t, h, n, p.pins(n))
		}
	}
}

// with is handles that have these pages, of each client in turn (-1: none), and the plain ones.
func with(t *testing.T, rows ...[]int) (*handle.Handles, plain) {
	t.Helper()
	h, p := handle.New(len(rows)), newPlain(len(rows))
	for client, row := range rows {
		for k := range 6 {
			give(t, h, client, 1000+k, k)
		}
		for k := range 6 {
			back(t, h, client, k, 1000+k)
			if k < len(row) && row[k] != -1 {
				give(t, h, client, row[k], k)
				p[client][k] = row[k]
			} else {
				give(t, h, client, 1000+k, k) // so that the next one stands behind
			}
		}
		for k := range 6 {
			if p.has(client, k) == -1 {
				back(t, h, client, k, 1000+k)
			}
		}
	}
	stands(t, h, p)
	return h, p
}

// 12.1: 1 to 6 clients have six handles each, of -1, and no client more is there.
func TestNew(t *testing.T) {
	for n := 1; n <= 6; n++ {
		h := handle.New(n)
		if h == nil {
			t.Fatalf("New(%d) is none", n)
		}
		stands(t, h, newPlain(n), pages...)
		if got := h.All(); len(got) != n || len(got[n-1]) != 6 {
			t.Fatalf("of New(%d): %v", n, got)
		}
	}
}

// 12.1: of other numbers of clients there is nothing.
func TestNewOfNone(t *testing.T) {
	for _, n := range append(slices.Clone(nothings), 0) {
		if want := n == 6; (handle.New(n) != nil) != want {
			t.Errorf("New(%d) is %v", n, handle.New(n))
		}
	}
}

// 12.1: the document's example.
func TestExample(t *testing.T) {
	for n := 1; n <= 6; n++ {
		give(t, handle.New(n), 0, 3, 0)
	}
}

// 12.1: handles are given from the least on, six of each client, and then none.
func TestGiveInTurn(t *testing.T) {
	for n := 1; n <= 6; n++ {
		h, p := handle.New(n), newPlain(n)
		for k := range 6 {
			for client := range n {
				give(t, h, client, 10*client+k, k)
				p[client][k] = 10*client + k
				stands(t, h, p)
			}
		}
		for client := range n {
			for _, more := range append(pages, noPages...) {
				give(t, h, client, more, -1)
			}
		}
		stands(t, h, p)
	}
}

// free is a row of handles of which those are -1 that bits names, the others have the pages 20, 21 ..
func free(bits int) []int {
	row := []int{20, 21, 22, 23, 24, 25}
	for k := range row {
		if bits>>k&1 == 1 {
			row[k] = -1
		}
	}
	return row
}

// 12.1: whichever handles are -1, the least of them is given, of each client, whatever the others have.
func TestGiveTheLeast(t *testing.T) {
	for bits := range 64 {
		for client := range 6 {
			rows := [][]int{free(1), free(2), free(4), free(8), free(16), free(32)}
			rows[client] = free(bits)
			h, p := with(t, rows...)
			for k := range 6 {
				if bits>>k&1 == 1 {
					room(t, h, client, true)
					give(t, h, client, 30, k)
					p[client][k] = 30
					stands(t, h, p)
				}
			}
			room(t, h, client, false)
			give(t, h, client, 30, -1)
			stands(t, h, p)
		}
	}
}

// 12.1: no page below 0 is given, and nothing to no client; by neither does anything change.
func TestGiveOfNone(t *testing.T) {
	for n := 1; n <= 6; n++ {
		h, p := handle.New(n), newPlain(n)
		for k := range 4 {
			for client := range n {
				for _, none := range noPages {
					give(t, h, client, none, -1)
				}
			}
			for _, client := range append([]int{n}, nothings...) {
				give(t, h, client, 3, -1)
				give(t, h, client, -1, -1)
				room(t, h, client, false)
			}
			stands(t, h, p, 3)
			give(t, h, n-1, 3, k)
			p[n-1][k] = 3
		}
	}
}

// 12.1: a page is any number from 0 on: what was given is told, pinned, and given back whole.
func TestAnyPage(t *testing.T) {
	for _, n := range pages {
		h, p := with(t, []int{4}, []int{})
		give(t, h, 1, n, 0)
		give(t, h, 0, n, 1)
		p[1][0], p[0][1] = n, n
		stands(t, h, p, pages...)
		back(t, h, 0, 1, n)
		delete(p[0], 1)
		stands(t, h, p, pages...)
		back(t, h, 1, 0, n)
		delete(p[1], 0)
		stands(t, h, p, pages...)
	}
}

// 12.1: Page is -1 of a handle that is -1, of no such handle and of no such client.
func TestPageOfNone(t *testing.T) {
	h, _ := with(t, []int{0, 0, 0, 0, 0, 0}, []int{-1, 1, -1, 2, -1, 3}, []int{9, 9, 9, 9, 9, 9})
	for client := range 3 {
		for _, k := range nothings {
			page(t, h, client, k, -1)
		}
	}
	for _, client := range append([]int{3, 4, 5}, nothings...) {
		for k := range 6 {
			page(t, h, client, k, -1)
		}
		page(t, h, client, client, -1)
	}
	for k, want := range []int{-1, 1, -1, 2, -1, 3} {
		page(t, h, 1, k, want)
		page(t, h, 1, k, want)
	}
}

// 12.1: Back tells the page once; then the handle is -1, and the others are as they were.
func TestBack(t *testing.T) {
	for client := range 3 {
		for k := range 6 {
			h, p := with(t, []int{7, 7, 1, 7, 0, 7}, []int{7, 2, 7, 7, 7, 0}, []int{0, 7, 7, 3, 7, 7})
			back(t, h, client, k, p[client][k])
			delete(p[client], k)
			stands(t, h, p, 0, 1, 2, 3)
			back(t, h, client, k, -1)
			stands(t, h, p, 0, 1, 2, 3)
			give(t, h, client, 5, k)
			p[client][k] = 5
			stands(t, h, p, 0, 1, 2, 3)
		}
	}
}

// 12.1: all handles may come back, in every order of a few, and then all are -1.
func TestAllBack(t *testing.T) {
	c := rand.New(rand.NewSource(120))
	for range 200 {
		h, p := with(t, []int{7, 7, 1, 7, 0, 7}, []int{7, 2, 7, 7, 7, 0})
		for _, at := range c.Perm(12) {
			back(t, h, at/6, at%6, p[at/6][at%6])
			delete(p[at/6], at%6)
			stands(t, h, p, 0, 1, 2, 7)
		}
		if got, want := h.All(), handle.New(2).All(); !slices.EqualFunc(got, want, slices.Equal) {
			t.Fatal(got)
		}
	}
}

// 12.1: Back of a handle that is -1, of no such handle, of no such client: -1, and nothing changes.
func TestBackOfNone(t *testing.T) {
	h, p := with(t, []int{0, 0, 0, 0, 0, 0}, []int{-1, 1, -1, 2, -1, 3}, []int{9, 9, 9, 9, 9, 9})
	for _, k := range []int{0, 2, 4} {
		back(t, h, 1, k, -1)
	}
	for client := range 3 {
		for _, k := range nothings {
			back(t, h, client, k, -1)
		}
	}
	for _, client := range append([]int{3, 4, 5}, nothings...) {
		for k := range 6 {
			back(t, h, client, k, -1)
		}
		back(t, h, client, client, -1)
	}
	stands(t, h, p, pages...)
}

// 12.1: Pins counts all handles of all clients that have a page: up to 36.
func TestPins(t *testing.T) {
	for _, n := range []int{0, 5, 47, math.MaxInt} {
		h := handle.New(6)
		count := 0
		for k := range 6 {
			for client := 5; client >= 0; client-- {
				pins(t, h, n, count)
				give(t, h, client, n, k)
				count++
			}
		}
		for client := range 6 {
			for k := range 6 {
				pins(t, h, n, count)
				back(t, h, client, k, n)
				count--
			}
		}
		pins(t, h, n, 0)
	}
}

// 12.1: handles that are -1 are not pins of -1: of pages below 0 there are none, however many handles have nothing.
func TestPinsBelowZero(t *testing.T) {
	for n := 1; n <= 6; n++ {
		h := handle.New(n)
		for k := range 7 {
			for _, none := range noPages {
				pins(t, h, none, 0)
			}
			for client := range n {
				give(t, h, client, 0, []int{0, 1, 2, 3, 4, 5, -1}[k])
			}
		}
	}
}

// A step: its kind, a client, a page or a handle.
const (
	kGive = iota
	kBack
)

type step struct{ kind, client, n int }

// both makes a step on handles and on the plain ones.
func both(t *testing.T, h *handle.Handles, p plain, s step) {
	t.Helper()
	if s.kind == kGive {
		give(t, h, s.client, s.n, p.give(s.client, s.n))
	} else {
		back(t, h, s.client, s.n, p.back(s.client, s.n))
	}
}

// 12.1: all runs of four steps of two clients, from every way in which the first one's handles may be free.
func TestAllRuns(t *testing.T) {
	steps := []step{{kGive, 0, 0}, {kGive, 0, 3}, {kGive, 1, 3}, {kGive, 0, -1}, {kBack, 0, 0}, {kBack, 0, 3}, {kBack, 0, 5}, {kBack, 1, 0}, {kBack, 1, 1}}
	for bits := range 64 {
		for run := range 9 * 9 * 9 * 9 {
			h, p := handle.New(2), newPlain(2)
			for range 6 {
				both(t, h, p, step{kGive, 0, 4})
			}
			both(t, h, p, step{kGive, 1, 4})
			for k := range 6 {
				if bits>>k&1 == 1 {
					both(t, h, p, step{kBack, 0, k})
				}
			}
			for range 4 {
				both(t, h, p, steps[run%9])
				run /= 9
			}
			if got := h.All(); !slices.EqualFunc(got, p.all(), slices.Equal) {
				t.Fatalf("All() = %v, want %v", got, p.all())
			}
		}
	}
}

// 12.1: long lives, by chance, of one to six clients, of many pages and few, beside the plain ones.
func TestLives(t *testing.T) {
	c := rand.New(rand.NewSource(121))
	for range 300 {
		clients, pages, giving := 1+c.Intn(6), 1+c.Intn(48), 1+c.Intn(9)
		h, p := handle.New(clients), newPlain(clients)
		for range 300 {
			s := step{kBack, c.Intn(clients+2) - 1, c.Intn(8) - 1}
			if c.Intn(10) < giving {
				s = step{kGive, s.client, c.Intn(pages+1) - 1}
			}
			both(t, h, p, s)
			stands(t, h, p, 0, 1, 2, 47)
		}
	}
}

// 12.1: of nil: -1, 0, false, nothing, whatever is asked.
func TestOfNil(t *testing.T) {
	var h *handle.Handles
	for range 2 {
		for _, n := range slices.Concat(nothings, noPages, pages, []int{3, 4}) {
			for _, m := range []int{n, 0, 3, -1, math.MaxInt} {
				give(t, h, n, m, -1)
				page(t, h, n, m, -1)
				back(t, h, n, m, -1)
				give(t, h, m, n, -1)
				page(t, h, m, n, -1)
				back(t, h, m, n, -1)
			}
			pins(t, h, n, 0)
			room(t, h, n, false)
		}
		if all := h.All(); len(all) != 0 {
			t.Fatal(all)
		}
	}
}

// 12.1: handles made without New have no clients.
func TestWithoutNew(t *testing.T) {
	var h handle.Handles
	for range 2 {
		stands(t, &h, plain{}, pages...)
		for _, client := range append([]int{0, 1, 5}, nothings...) {
			give(t, &h, client, 3, -1)
			back(t, &h, client, 0, -1)
		}
	}
}

// Rule 2: what All tells is the caller's own, and no two lists of it share anything.
func TestToldIsTheCallers(t *testing.T) {
	rows := [][]int{{1, -1, 2, 3, 4, 5}, {-1, 7, 7, 7, 8, 8}, {0, 0, 0, 0, 0, -1}}
	h, p := with(t, rows...)
	one, two := h.All(), h.All()
	for client := range one {
		row := one[client]
		clear(row)
		for range cap(row) - len(row) + 3 {
			row = append(row, 99)
		}
		_ = append(one[client][:0:cap(one[client])], 99, 99, 99, 99, 99, 99, 99)
		if next := client + 1; next < len(one) && !slices.Equal(one[next], rows[next]) {
			t.Fatal("two lists share", one)
		}
		stands(t, h, p)
	}
	clear(one)
	_ = append(one, []int{98})
	if !slices.EqualFunc(two, rows, slices.Equal) {
		t.Fatal("two answers share", two)
	}
	for client := range 3 { // nor does what was told change by the steps behind it
		h.Give(client, 50)
		h.Back(client, 3)
	}
	if !slices.EqualFunc(two, rows, slices.Equal) {
		t.Fatal("an answer is not the caller's own", two)
	}
}

// Rule 3: handles hang on the calls ahead on them alone.
func TestHandlesAreApart(t *testing.T) {
	a, b := handle.New(2), handle.New(2)
	p, q := newPlain(2), newPlain(2)
	for k := range 6 {
		both(t, a, p, step{kGive, 0, 10 + k})
		stands(t, b, q)
		both(t, b, q, step{kGive, 1, 20 + k})
		stands(t, a, p)
		both(t, a, p, step{kBack, 0, k / 2})
		stands(t, b, q)
	}
}

// 12.2: nobody comes by another's handle: by whatever number it asks, it has its own page or none, and gives none back for another.
func TestNotAnothers(t *testing.T) {
	for owner := range 6 {
		rows := make([][]int, 6)
		rows[owner] = []int{40, 41, 42, 43, 44, 45}
		h, p := with(t, rows...)
		for client := -7; client <= 12; client++ {
			for k := -37; k <= 37; k++ {
				if client == owner && k >= 0 && k < 6 {
					page(t, h, client, k, 40+k)
					continue
				}
				page(t, h, client, k, -1)
				back(t, h, client, k, -1)
			}
		}
		stands(t, h, p, 0, 39, 46)
		for client := range 6 { // who is given the same page has a handle of its own
			if client != owner {
				give(t, h, client, 44, 0)
				p[client][0] = 44
				stands(t, h, p)
			}
		}
		for client := range 6 {
			if client != owner {
				back(t, h, client, 4, -1)
				back(t, h, client, 0, 44)
				back(t, h, client, 0, -1)
			}
		}
		for k := range 6 {
			page(t, h, owner, k, 40+k)
			pins(t, h, 40+k, 1)
		}
	}
}

// 12.2: what each client is answered hangs on its own steps alone, whatever the others do between.
func TestAloneOrAmongOthers(t *testing.T) {
	c := rand.New(rand.NewSource(122))
	for range 100 {
		among := handle.New(6)
		var alone [6]*handle.Handles
		for client := range alone {
			alone[client] = handle.New(client + 1)
		}
		for range 300 {
			client, n := c.Intn(6), c.Intn(9)-1
			own := alone[client]
			if c.Intn(2) == 0 {
				give(t, among, client, n, own.Give(client, n))
			} else {
				back(t, among, client, n, own.Back(client, n))
			}
			for k := -1; k <= 6; k++ {
				page(t, among, client, k, own.Page(client, k))
			}
			room(t, among, client, own.Room(client))
		}
		for n := -1; n <= 9; n++ {
			sum := 0
			for _, own := range alone {
				sum += own.Pins(n)
			}
			pins(t, among, n, sum)
		}
	}
}
