package hist_test

import (
	"bytes"
	"math"
	"math/rand"
	"slices"
	"strings"
	"testing"

	"lavabo/api"
	"lavabo/hist"
	"lavabo/model"
)

// ends are numbers at the ends of int's range, and where a narrower kind of number would wrap round.
var ends = []int{math.MinInt, math.MinInt + 1, -1 << 32, -1<<32 + 1, math.MinInt32, -257, -256, -255, -128, 256, 257, 258, 1 << 16, 1<<16 + 1, math.MaxInt32, 1 << 32, 1<<32 + 1, 1<<32 + 2, math.MaxInt - 1, math.MaxInt}

// plain is Check and Final told anew, word by word of 14.2, and each word for all events ahead.
func plain(l []api.Event, pages, clients int) (int, api.State) {
	if pages < 1 || pages > 48 || clients < 1 || clients > 6 {
		return -1, api.State{}
	}
	for at, e := range l {
		if !alone(l[:at], e, clients) {
			return at + 1, api.State{}
		}
	}
	s := model.New(pages, clients)
	for _, at := range order(l) {
		e := l[at]
		n, r := model.Do(s, e.Client, e.Op)
		told := e.Res.Code == r.Code && e.Res.Page == r.Page && e.Res.Handle == r.Handle && bytes.Equal(e.Res.Data, r.Data)
		bare := e.Res.Page == 0 && e.Res.Handle == 0 && len(e.Res.Data) == 0
		switch {
		case e.End == 0:
			s = n
		case told:
			s = n
		case bare && slices.Contains(mayFail[e.Res.Code], e.Op.Kind):
		default:
			return at + 1, api.State{}
		}
	}
	return 0, s
}

// mayFail is 14.1: which kinds may tell a code though the model would not.
var mayFail = map[int][]int{
	api.ErrFull:    {api.ONew, api.OFetch},
	api.ErrIO:      {api.ONew, api.OFetch, api.OFlush, api.OFlushAll},
	api.ErrCorrupt: {api.OFetch},
}

// alone is whether an event is right by itself, behind those ahead of it.
func alone(ahead []api.Event, e api.Event, clients int) bool {
	if e.Client < 0 || e.Client > clients-1 || e.Begin <= 0 {
		return false
	}
	if n := len(ahead); n > 0 && e.Begin < ahead[n-1].Begin {
		return false
	}
	ended := e.End > 0
	if ended && (e.Stamp < e.Begin || e.Stamp > e.End) {
		return false
	}
	if !ended && (e.End != 0 || e.Stamp != 0 && e.Stamp < e.Begin) {
		return false
	}
	for _, o := range ahead {
		if o.Client == e.Client && !(o.End > 0 && o.End < e.Begin) {
			return false
		}
	}
	return true
}

// order is Order told anew: time and again the least Stamp, of one Stamp the least place.
func order(l []api.Event) []int {
	places := []int{}
	for {
		best := -1
		for at, e := range l {
			if e.Stamp > 0 && !slices.Contains(places, at) && (best < 0 || e.Stamp < l[best].Stamp) {
				best = at
			}
		}
		if best < 0 {
			return places
		}
		places = append(places, best)
	}
}

// deep is a copy of a history, lists within, too.
func deep(l []api.Event) []api.Event {
	var n []api.Event
	for _, e := range l {
		e.Op.Data, e.Res.Data = bytes.Clone(e.Op.Data), bytes.Clone(e.Res.Data)
		n = append(n, e)
	}
	return n
}

func alikeOp(a, b api.Op) bool {
	return a.Kind == b.Kind && a.Page == b.Page && a.Handle == b.Handle && a.Off == b.Off && a.N == b.N && bytes.Equal(a.Data, b.Data)
}

func alike(a, b []api.Event) bool {
	return slices.EqualFunc(a, b, func(a, b api.Event) bool {
		return a.Client == b.Client && alikeOp(a.Op, b.Op) && model.SameRes(a.Res, b.Res) && a.Begin == b.Begin && a.Stamp == b.Stamp && a.End == b.End
	})
}

// zero is whether a state is the zero State.
func zero(s api.State) bool { return s.There == nil && s.Body == nil && s.Handles == nil }

// same holds Check, Final and Order of a history against those told anew, and that what was handed in stays; it tells what Check told.
func same(t *testing.T, l []api.Event, pages, clients int) int {
	t.Helper()
	was := deep(l)
	want, state := plain(l, pages, clients)
	if got := hist.Check(l, pages, clients); got != want {
		t.Fatalf("Check(%v, %d, %d) = %d, want %d", l, pages, clients, got, want)
	}
	s, ok := hist.Final(l, pages, clients)
	if ok != (want == 0) || ok && !model.Same(s, state) || !ok && !zero(s) {
		t.Fatalf("Final(%v, %d, %d) = %v, %v, want %v, %v", l, pages, clients, s, ok, state, want == 0)
	}
	if got := hist.Order(l); !slices.Equal(got, order(l)) {
		t.Fatalf("Order(%v) = %v", l, got)
	}
	if !alike(l, was) {
		t.Fatalf("what was handed in changed: %v, was %v", l, was)
	}
	return want
}

// check holds that Check tells want of a history.
func check(t *testing.T, want int, l []api.Event, pages, clients int) {
	t.Helper()
	if got := hist.Check(l, pages, clients); got != want {
		t.Fatalf("Check(%v, %d, %d) = %d, want %d", l, pages, clients, got, want)
	}
	same(t, l, pages, clients)
}

// Short words for the calls and what they tell.
func oNew() api.Op                    { return api.Op{Kind: api.ONew} }
func oFetch(page int) api.Op          { return api.Op{Kind: api.OFetch, Page: page} }
func oRead(handle, off, n int) api.Op { return api.Op{Kind: api.ORead, Handle: handle, Off: off, N: n} }
func oWrite(handle, off int, d string) api.Op {
	return api.Op{Kind: api.OWrite, Handle: handle, Off: off, Data: []byte(d)}
}
func oUnpin(handle int) api.Op        { return api.Op{Kind: api.OUnpin, Handle: handle} }
func oFlush(page int) api.Op          { return api.Op{Kind: api.OFlush, Page: page} }
func oFlushAll() api.Op               { return api.Op{Kind: api.OFlushAll} }
func oDelete(page int) api.Op         { return api.Op{Kind: api.ODelete, Page: page} }
func done() api.Res                   { return api.Res{} }
func fails(code int) api.Res          { return api.Res{Code: code} }
func pinned(page, handle int) api.Res { return api.Res{Page: page, Handle: handle} }
func have(d string) api.Res           { return api.Res{Data: []byte(d)} }

// of is an event of a client.
func of(client int, op api.Op, r api.Res, begin, stamp, end int) api.Event {
	return api.Event{Client: client, Op: op, Res: r, Begin: begin, Stamp: stamp, End: end}
}

// at is a flush of all pages, which tells 0 whenever it is: an event of which the times alone are asked.
func at(client, begin, stamp, end int) api.Event {
	return of(client, oFlushAll(), done(), begin, stamp, end)
}

// call is a client's call and what it tells.
type call struct {
	client int
	op     api.Op
	res    api.Res
}

// turn is the history of calls that were made one by one, the first at step 1.
func turn(calls ...call) []api.Event {
	var l []api.Event
	for k, c := range calls {
		l = append(l, of(c.client, c.op, c.res, k+1, k+1, k+1))
	}
	return l
}

// 14.1, Bad: which kinds may tell which codes, and no others; other parts of a call are not asked.
func TestBad(t *testing.T) {
	numbers := slices.Concat(ends, []int{-10, -9, -8, -2, -1})
	for n := range 30 {
		numbers = append(numbers, n)
	}
	for _, code := range numbers {
		for _, kind := range numbers {
			want := slices.Contains(mayFail[code], kind)
			if hist.Bad(api.Op{Kind: kind}, code) != want {
				t.Errorf("Bad of kind %d, %d is not %v", kind, code, want)
			}
			for _, n := range []int{-1, 1, 99} {
				op := api.Op{Kind: kind, Page: n, Handle: n, Off: n, N: n, Data: []byte("a")}
				if hist.Bad(op, code) != want {
					t.Errorf("Bad(%v, %d) is not %v", op, code, want)
				}
			}
		}
	}
	for code, kinds := range mayFail {
		for _, kind := range kinds {
			if !hist.Bad(api.Op{Kind: kind}, code) {
				t.Errorf("kind %d may not tell %d", kind, code)
			}
		}
	}
	if api.ErrFull != 8 || api.ErrIO != 9 || api.ErrCorrupt != 10 {
		t.Error("the codes are others")
	}
}

// stamped is a history of which the Stamps alone are asked.
func stamped(stamps ...int) []api.Event {
	var l []api.Event
	for k, n := range stamps {
		l = append(l, api.Event{Client: -k, Stamp: n, Begin: 9, End: -9})
	}
	return l
}

// 14.1, Order: the places of Stamps above 0, by Stamps, of one Stamp by places, whatever else is told.
func TestOrder(t *testing.T) {
	for _, c := range []struct{ stamps, want []int }{
		{nil, nil},
		{[]int{0}, nil},
		{[]int{-1, 0, math.MinInt}, nil},
		{[]int{1}, []int{0}},
		{[]int{7, 5, 3}, []int{2, 1, 0}},
		{[]int{3, 5, 7}, []int{0, 1, 2}},
		{[]int{0, 2, 0, 1}, []int{3, 1}},
		{[]int{4, 4, 4}, []int{0, 1, 2}},
		{[]int{4, 1, 4, 1, -4}, []int{1, 3, 0, 2}},
		{[]int{math.MaxInt, math.MinInt, 1, math.MaxInt - 1, math.MaxInt}, []int{2, 3, 0, 4}},
		{[]int{1<<32 + 1, 2, 1 << 32}, []int{1, 2, 0}},
	} {
		if got := hist.Order(stamped(c.stamps...)); !slices.Equal(got, c.want) {
			t.Errorf("Order of %v = %v, want %v", c.stamps, got, c.want)
		}
	}
	if len(hist.Order([]api.Event{})) != 0 {
		t.Error("of nothing")
	}
}

// 14.1, Order: of all Stamps of up to six events.
func TestAllOrders(t *testing.T) {
	var grow func(stamps []int)
	grow = func(stamps []int) {
		l := stamped(stamps...)
		if got, want := hist.Order(l), order(l); !slices.Equal(got, want) {
			t.Fatalf("Order of %v = %v, want %v", stamps, got, want)
		}
		if len(stamps) < 6 {
			for n := -1; n <= 4; n++ {
				grow(append(slices.Clone(stamps), n))
			}
		}
	}
	grow(nil)
}

// 14.1, Order: of many events, few Stamps: those of one Stamp stand by places.
func TestLongOrders(t *testing.T) {
	c := rand.New(rand.NewSource(140))
	for _, n := range []int{13, 40, 300, 20000} {
		for _, few := range []int{1, 2, 5, n} {
			var stamps []int
			for range n {
				stamps = append(stamps, c.Intn(few+1))
			}
			got := hist.Order(stamped(stamps...))
			if len(got) != n-count(stamps, 0) {
				t.Fatal(n, few, len(got))
			}
			for k := range got { // each stands behind the one ahead, so none is there twice
				if stamps[got[k]] == 0 {
					t.Fatal("without a Stamp", n, few, got[k])
				}
				if k > 0 && (stamps[got[k-1]] > stamps[got[k]] || stamps[got[k-1]] == stamps[got[k]] && got[k-1] >= got[k]) {
					t.Fatal(n, few, got[k-1], got[k])
				}
			}
		}
	}
}

// count is how many of the numbers are n.
func count(l []int, n int) int {
	all := 0
	for _, k := range l {
		if k == n {
			all++
		}
	}
	return all
}

// 14.2: pages and clients that may not be: -1, and no state, whatever the history; nothing is right of all others.
func TestNoSuch(t *testing.T) {
	l := turn(call{0, oNew(), done()})
	wrong := []api.Event{at(9, 9, 9, 9)}
	for _, pages := range slices.Concat(ends, []int{-2, -1, 0, 1, 2, 7, 47, 48, 49, 50, 64, 304}) {
		for _, clients := range slices.Concat(ends, []int{-2, -1, 0, 1, 2, 5, 6, 7, 8, 48, 262}) {
			may := pages >= 1 && pages <= 48 && clients >= 1 && clients <= 6
			for _, h := range [][]api.Event{nil, {}, l, wrong} {
				got := hist.Check(h, pages, clients)
				s, ok := hist.Final(h, pages, clients)
				if !may && (got != -1 || ok || !zero(s)) {
					t.Fatalf("%d pages, %d clients: %d, %v", pages, clients, got, ok)
				}
				if may && (got == -1 || ok != (got == 0) || ok && (len(s.There) != pages || len(s.Handles) != clients)) {
					t.Fatalf("%d pages, %d clients: %d, %v, %v", pages, clients, got, s, ok)
				}
			}
			if may {
				check(t, 0, nil, pages, clients)
				check(t, 0, []api.Event{}, pages, clients)
				check(t, 0, l, pages, clients)
				check(t, 1, wrong, pages, clients)
				if s, _ := hist.Final(nil, pages, clients); !model.Same(s, model.New(pages, clients)) {
					t.Fatal(s)
				}
			}
		}
	}
}

// 14.2: Client from 0 to clients - 1.
func TestClients(t *testing.T) {
	for clients := 1; clients <= 6; clients++ {
		for _, client := range slices.Concat(ends, []int{-7, -6, -5, -4, -3, -2, -1, 0, 1, 2, 3, 4, 5, 6, 7, 8}) {
			want := 0
			if client < 0 || client >= clients {
				want = 1
			}
			check(t, want, []api.Event{at(client, 1, 1, 1)}, 2, clients)
			check(t, want, []api.Event{at(client, 1, 0, 0)}, 2, clients)
			if client != 0 {
				check(t, 2*want, []api.Event{at(0, 1, 1, 1), at(client, 2, 2, 2)}, 2, clients)
			}
		}
	}
}

// 14.2: Begin above 0, and not below the one's ahead, whosever it is.
func TestBegins(t *testing.T) {
	for _, begin := range slices.Concat(ends, []int{-2, -1, 0, 1, 2, 3, 4, 5, 6, 7}) {
		one, two := 0, 0
		if begin < 1 {
			one = 1
		}
		if begin < 5 {
			two = 2
		}
		for _, end := range []int{begin, 0} {
			check(t, one, []api.Event{at(1, begin, end, end)}, 2, 3)
			check(t, two, []api.Event{at(0, 5, 6, 7), at(1, begin, end, end)}, 2, 3)
			check(t, two, []api.Event{at(0, 5, 0, 0), at(1, begin, end, end)}, 2, 3)
		}
	}
	// the one ahead, not only the first or the greatest of that client's
	check(t, 0, []api.Event{at(0, 1, 1, 1), at(1, 3, 3, 3), at(2, 3, 3, 3), at(0, 3, 3, 3)}, 2, 3)
	check(t, 3, []api.Event{at(0, 1, 1, 1), at(1, 3, 3, 3), at(2, 2, 2, 2), at(0, 3, 3, 3)}, 2, 3)
	check(t, 4, []api.Event{at(0, 1, 1, 1), at(1, 3, 3, 3), at(2, 3, 3, 3), at(0, 2, 2, 2)}, 2, 3)
	// Begins, not Stamps or Ends
	check(t, 0, []api.Event{at(0, 2, 9, 9), at(1, 2, 3, 4), at(2, 3, 3, 3)}, 2, 3)
	check(t, 2, []api.Event{at(0, 2, 9, 9), at(1, 1, 9, 9)}, 2, 3)
}

// 14.2: of one that ended Stamp from Begin to End; of one that has not: End 0, Stamp 0 or not below Begin.
func TestStamps(t *testing.T) {
	numbers := slices.Concat(ends, []int{-6, -5, -4, -3, -2, -1, 0, 1, 2, 3, 4, 5, 6, 7, 8, 9})
	for _, stamp := range numbers {
		for _, end := range numbers {
			for _, begin := range []int{1, 5, 6, math.MaxInt} {
				right := end > 0 && begin <= stamp && stamp <= end || end == 0 && (stamp == 0 || stamp >= begin)
				want := 1
				if right {
					want = 0
				}
				check(t, want, []api.Event{at(0, begin, stamp, end)}, 2, 2)
			}
			right := end > 0 && 5 <= stamp && stamp <= end || end == 0 && (stamp == 0 || stamp >= 5)
			want := 2
			if right {
				want = 0
			}
			check(t, want, []api.Event{at(1, 5, 5, 9), at(0, 5, stamp, end)}, 2, 2)
		}
	}
	check(t, 1, []api.Event{at(0, 3, 2, 4)}, 2, 2)
	check(t, 0, []api.Event{at(0, 3, 3, 4)}, 2, 2)
	check(t, 0, []api.Event{at(0, 3, 4, 4)}, 2, 2)
	check(t, 1, []api.Event{at(0, 3, 5, 4)}, 2, 2)
	check(t, 1, []api.Event{at(0, 3, 0, 4)}, 2, 2)
	check(t, 1, []api.Event{at(0, 3, 3, 2)}, 2, 2)
	check(t, 1, []api.Event{at(0, 3, 2, 2)}, 2, 2)
	check(t, 1, []api.Event{at(0, 3, 2, 0)}, 2, 2)
	check(t, 0, []api.Event{at(0, 3, 3, 0)}, 2, 2)
	check(t, 0, []api.Event{at(0, 3, 0, 0)}, 2, 2)
	check(t, 1, []api.Event{at(0, 3, -1, 0)}, 2, 2)
	check(t, 1, []api.Event{at(0, 3, 3, -1)}, 2, 2)
	check(t, 1, []api.Event{at(0, 3, 0, -1)}, 2, 2)
}

// 14.2: a client has one call at a time: each one ahead has ended below the Begin.
func TestOneAtATime(t *testing.T) {
	for end := 4; end <= 8; end++ {
		for begin := 4; begin <= 10; begin++ {
			want := 2
			if end < begin {
				want = 0
			}
			check(t, want, []api.Event{at(1, 4, 4, end), at(1, begin, begin, begin)}, 2, 2)
			check(t, want, []api.Event{at(1, 4, 4, end), at(1, begin, 0, 0)}, 2, 2)
			check(t, 0, []api.Event{at(1, 4, 4, end), at(0, begin, begin, begin)}, 2, 2)
		}
	}
	for _, stamp := range []int{0, 4, 5, 9} { // one that has not ended: none behind it
		for _, begin := range []int{4, 5, 6, 99, math.MaxInt} {
			check(t, 2, []api.Event{at(1, 4, stamp, 0), at(1, begin, begin, begin)}, 2, 2)
			check(t, 2, []api.Event{at(1, 4, stamp, 0), at(1, begin, 0, 0)}, 2, 2)
			check(t, 0, []api.Event{at(0, 4, stamp, 0), at(1, begin, begin, begin)}, 2, 2)
		}
	}
	check(t, 2, []api.Event{at(0, 1, 1, math.MaxInt), at(0, math.MaxInt, math.MaxInt, math.MaxInt)}, 1, 1)
	check(t, 0, []api.Event{at(0, 1, 1, math.MaxInt-1), at(0, math.MaxInt, math.MaxInt, math.MaxInt)}, 1, 1)
	// one ahead, however far, with others between
	for _, end := range []int{0, 30, 31, 99} {
		want := 0
		if end != 30 {
			want = 7
		}
		l := []api.Event{at(3, 2, 9, end)}
		for client := range 6 {
			if client != 3 {
				l = append(l, at(client, 3+client, 10, 11))
			}
		}
		check(t, want, append(l, at(3, 31, 40, 41)), 2, 6)
	}
	// each client has its own
	var l []api.Event
	for k := range 60 {
		l = append(l, at(k%6, k+1, k+3, k+6-k%2))
	}
	check(t, 0, l, 2, 6)
	l[53].End = 59
	check(t, 0, l, 2, 6)
	l[53].End = 60
	check(t, 60, l, 2, 6)
	l[7].End = 13
	check(t, 60, l, 2, 6)
	l[7].End = 14
	check(t, 14, l, 2, 6)
}

// 14.2: all times of two events, of one client and of two.
func TestAllTimesOfTwo(t *testing.T) {
	var all []api.Event
	for client := -1; client <= 2; client++ {
		for begin := -1; begin <= 4; begin++ {
			for stamp := -1; stamp <= 4; stamp++ {
				for end := -1; end <= 4; end++ {
					all = append(all, at(client, begin, stamp, end))
				}
			}
		}
	}
	wrongs := map[int]int{}
	for _, a := range all {
		for _, b := range all {
			quick(t, []api.Event{a, b}, 1, 2, wrongs)
		}
	}
	if len(wrongs) != 3 {
		t.Error(wrongs)
	}
}

// 14.2: times of three events: all that the first two are right with, and every third.
func TestAllTimesOfThree(t *testing.T) {
	var all []api.Event
	for client := range 2 {
		for begin := 1; begin <= 3; begin++ {
			for stamp := 0; stamp <= 4; stamp++ {
				for end := 0; end <= 4; end++ {
					all = append(all, at(client, begin, stamp, end))
				}
			}
		}
	}
	wrongs := map[int]int{}
	for _, a := range all {
		for _, b := range all {
			l := []api.Event{a, b, {}}
			if n, _ := plain(l[:2], 1, 2); n != 0 {
				continue
			}
			for _, l[2] = range all {
				quick(t, l, 1, 2, wrongs)
			}
		}
	}
	if len(wrongs) != 2 {
		t.Error(wrongs)
	}
}

// quick holds Check of a history against the one told anew, and counts what it told.
func quick(t *testing.T, l []api.Event, pages, clients int, wrongs map[int]int) {
	want, _ := plain(l, pages, clients)
	if got := hist.Check(l, pages, clients); got != want {
		t.Fatalf("Check(%v, %d, %d) = %d, want %d", l, pages, clients, got, want)
	}
	wrongs[want]++
}

// long is a history in turn in which every kind of call tells what it has to, and every code that the model has.
func long() []api.Event {
	return turn(
		call{0, oFlushAll(), done()},
		call{0, oNew(), done()},
		call{1, oNew(), pinned(1, 0)},
		call{1, oNew(), fails(api.ErrPages)},
		call{1, oFetch(0), pinned(0, 1)},
		call{1, oWrite(1, 3, "abc"), done()},
		call{0, oRead(0, 2, 5), have("\x00abc\x00")},
		call{0, oRead(0, 16, 0), done()},
		call{0, oRead(0, 12, 5), fails(api.ErrRange)},
		call{0, oWrite(0, 15, "xy"), fails(api.ErrRange)},
		call{0, oRead(1, 2, 5), fails(api.ErrHandle)},
		call{0, oWrite(1, 2, "z"), fails(api.ErrHandle)},
		call{0, oUnpin(5), fails(api.ErrHandle)},
		call{1, oDelete(0), fails(api.ErrPinned)},
		call{0, oUnpin(0), done()},
		call{1, oDelete(0), fails(api.ErrPinned)},
		call{1, oFlush(0), done()},
		call{1, oUnpin(1), done()},
		call{0, oDelete(0), done()},
		call{1, oDelete(0), fails(api.ErrNone)},
		call{1, oFlush(0), fails(api.ErrNone)},
		call{1, oFetch(0), fails(api.ErrNone)},
		call{1, oFetch(2), fails(api.ErrArg)},
		call{1, oFlush(-1), fails(api.ErrArg)},
		call{1, oDelete(48), fails(api.ErrArg)},
		call{1, api.Op{}, fails(api.ErrArg)},
		call{1, api.Op{Kind: 9}, fails(api.ErrArg)},
		call{0, oNew(), done()},
		call{0, oRead(0, 0, 16), have(string(make([]byte, 16)))},
		call{1, oFetch(1), pinned(1, 1)},
		call{1, oFetch(1), pinned(1, 2)},
		call{1, oFetch(1), pinned(1, 3)},
		call{1, oFetch(1), pinned(1, 4)},
		call{1, oFetch(1), pinned(1, 5)},
		call{1, oFetch(1), fails(api.ErrHandles)},
		call{1, oNew(), fails(api.ErrHandles)},
		call{1, oWrite(5, 0, "q"), done()},
		call{1, oRead(0, 0, 1), have("q")},
		call{0, oFlush(1), done()},
	)
}

// 14.2: Res is what the model tells, in all parts, of every kind of call: each part but one alike is wrong, at that event.
func TestAnswers(t *testing.T) {
	check(t, 0, long(), 2, 2)
	check(t, 0, long(), 2, 6)
	check(t, 4, long(), 3, 2)
	check(t, 3, long(), 2, 1)
	for place := range long() {
		wrong := func(change func(*api.Res)) {
			t.Helper()
			l := long()
			e := &l[place]
			change(&e.Res)
			want, _ := plain(l, 2, 2)
			bare := e.Res.Page == 0 && e.Res.Handle == 0 && len(e.Res.Data) == 0
			if !bare || !slices.Contains(mayFail[e.Res.Code], e.Op.Kind) {
				want = place + 1
			}
			check(t, want, l, 2, 2)
		}
		r := long()[place].Res
		for code := -1; code <= 14; code++ {
			if code == r.Code {
				continue
			}
			wrong(func(r *api.Res) { r.Code = code })
			wrong(func(r *api.Res) { r.Code, r.Page = code, r.Page+1 })
			wrong(func(r *api.Res) { r.Code, r.Handle = code, r.Handle+1 })
			wrong(func(r *api.Res) { r.Code, r.Data = code, append(r.Data, 0) })
			wrong(func(r *api.Res) { *r = fails(code) })
		}
		for _, n := range slices.Concat(ends, []int{-2, -1, 1, 2, 3}) {
			wrong(func(r *api.Res) { r.Page += n })
			wrong(func(r *api.Res) { r.Handle += n })
			wrong(func(r *api.Res) { r.Code += n })
		}
		wrong(func(r *api.Res) { r.Data = append(r.Data, 0) })
		wrong(func(r *api.Res) { r.Data = append([]byte{0}, r.Data...) })
		for k := range r.Data {
			wrong(func(r *api.Res) { r.Data[k] ^= 64 })
			wrong(func(r *api.Res) { r.Data = r.Data[:k] })
		}
		l := long() // an empty list is the same as none
		if len(r.Data) == 0 {
			l[place].Res.Data = []byte{}
		}
		check(t, 0, l, 2, 2)
	}
}

// 14.2: of the call, too, all parts that its Kind has are asked, and others are not.
func TestOtherCalls(t *testing.T) {
	parts := map[int]string{api.OFetch: "p", api.ORead: "hon", api.OWrite: "hod", api.OUnpin: "h", api.OFlush: "p", api.ODelete: "p"}
	for place, e := range long() {
		for _, name := range "phond" {
			l := long()
			op := &l[place].Op
			switch name {
			case 'p':
				op.Page += 77
			case 'h':
				op.Handle += 77
			case 'o':
				op.Off += 77
			case 'n':
				op.N += 77
			case 'd':
				op.Data = make([]byte, 77)
			}
			has := strings.ContainsRune(parts[e.Op.Kind], name)
			if got := same(t, l, 2, 2); !has && got != 0 || has && e.Res.Code == 0 && got != place+1 {
				t.Fatalf("%v tells %v: %d", l[place].Op, e.Res, got)
			}
		}
	}
}

// 14.2: a call that tells what Bad allows, and nothing beside, changes nothing, whatever the model would tell.
func TestBadStays(t *testing.T) {
	ops := []api.Op{oNew(), oFetch(0), oFetch(1), oFetch(2), oFetch(3), oFetch(-1), oRead(0, 0, 4), oWrite(0, 0, "abcd"), oUnpin(0), oUnpin(3), oFlush(0), oFlush(2), oFlush(9), oFlushAll(), oDelete(1), oDelete(2), {}, {Kind: 9}}
	front := []call{{0, oNew(), done()}, {1, oNew(), pinned(1, 0)}, {1, oUnpin(0), done()}, {0, oWrite(0, 0, "wxyz"), done()}}
	rear := []call{{0, oRead(0, 0, 4), have("wxyz")}, {1, oFetch(1), pinned(1, 0)}, {0, oNew(), pinned(2, 1)}, {0, oFetch(0), pinned(0, 2)}}
	want, _ := hist.Final(turn(slices.Concat(front, rear)...), 4, 2)
	for _, op := range ops {
		for _, code := range []int{api.ErrFull, api.ErrIO, api.ErrCorrupt, api.ErrBlank, api.ErrState, api.ErrHeld, 14, -1} {
			bad := slices.Contains(mayFail[code], op.Kind)
			for _, client := range []int{0, 1} {
				l := turn(slices.Concat(front, []call{{client, op, fails(code)}}, rear)...)
				if !bad {
					check(t, 5, l, 4, 2)
					continue
				}
				check(t, 0, l, 4, 2)
				if s, ok := hist.Final(l, 4, 2); !ok || !model.Same(s, want) {
					t.Fatalf("%v tells %d: %v", op, code, s)
				}
				l = turn(slices.Concat(front, slices.Repeat([]call{{client, op, fails(code)}}, 9), rear)...)
				check(t, 0, l, 4, 2)
				for _, r := range []api.Res{{Code: code, Page: 1}, {Code: code, Handle: 1}, {Code: code, Page: -1}, {Code: code, Handle: -1}, {Code: code, Data: []byte{0}}, {Code: code, Page: 1, Handle: 1, Data: []byte{1}}} {
					check(t, 5, turn(slices.Concat(front, []call{{client, op, r}}, rear)...), 4, 2)
				}
				check(t, 0, turn(slices.Concat(front, []call{{client, op, api.Res{Code: code, Data: []byte{}}}}, rear)...), 4, 2)
			}
		}
	}
	// it is not asked whether the call might have done something: what it would have done has not been done
	check(t, 2, turn(call{0, oNew(), fails(api.ErrFull)}, call{0, oNew(), pinned(1, 1)}), 4, 2)
	check(t, 0, turn(call{0, oNew(), fails(api.ErrFull)}, call{0, oNew(), done()}), 4, 2)
	check(t, 3, turn(call{0, oNew(), done()}, call{1, oFetch(0), fails(api.ErrCorrupt)}, call{1, oFetch(0), pinned(0, 1)}), 4, 2)
	check(t, 2, turn(call{0, oNew(), fails(api.ErrIO)}, call{1, oFetch(0), done()}), 4, 2)
}

// 14.2: of a call that has not ended Res is not asked: has it a Stamp, it is as the model tells; else it has done nothing.
func TestNotEnded(t *testing.T) {
	results := []api.Res{{}, pinned(0, 0), pinned(7, 7), fails(api.ErrFull), fails(api.ErrIO), fails(api.ErrCorrupt), fails(api.ErrHandles), fails(99), {Code: api.ErrFull, Page: 3, Data: []byte("a")}, have("abc")}
	for _, r := range results {
		l := []api.Event{of(0, oNew(), done(), 1, 1, 1), of(1, oNew(), r, 2, 3, 0), of(0, oFetch(1), pinned(1, 1), 4, 4, 4), of(2, oNew(), r, 5, 0, 0)}
		check(t, 0, l, 3, 3)
		s, ok := hist.Final(l, 3, 3)
		if !ok || !slices.Equal(s.There, []bool{true, true, false}) || s.Handles[1][0] != 1 || s.Handles[2][0] != -1 {
			t.Fatal(s, ok)
		}
		l[1].Stamp = 0 // then page 1 is not there
		check(t, 3, l, 3, 3)
		l[2].Res = fails(api.ErrNone)
		check(t, 0, l, 3, 3)
		l[1].Stamp = 5 // .. nor is it ahead of its Stamp
		check(t, 0, l, 3, 3)
		l[1].Stamp = 4 // .. but of one Stamp its place is ahead
		check(t, 3, l, 3, 3)
	}
	for _, r := range results { // one that the model tells an error of has done nothing, whatever it has
		l := []api.Event{of(0, oDelete(0), r, 1, 1, 0), of(1, oFetch(5), r, 1, 1, 0), of(2, api.Op{}, r, 2, 2, 0)}
		check(t, 0, l, 3, 3)
		if s, ok := hist.Final(l, 3, 3); !ok || !model.Same(s, model.New(3, 3)) {
			t.Fatal(s)
		}
	}
	// every kind
	front := []api.Event{of(0, oNew(), done(), 1, 1, 1), of(0, oWrite(0, 0, "old"), done(), 2, 2, 2), of(1, oFetch(0), done(), 3, 3, 3), of(1, oNew(), pinned(1, 1), 4, 4, 4), of(1, oUnpin(1), done(), 5, 5, 5)}
	for _, op := range []api.Op{oNew(), oFetch(1), oRead(0, 0, 3), oWrite(0, 0, "new"), oUnpin(0), oFlush(0), oFlushAll(), oDelete(1)} {
		was, _ := hist.Final(front, 3, 2)
		want, _ := model.Do(was, 1, op)
		l := append(slices.Clone(front), of(1, op, fails(api.ErrIO), 6, 7, 0))
		if s, ok := hist.Final(l, 3, 2); !ok || !model.Same(s, want) {
			t.Fatal(op, s)
		}
		l[5].Stamp = 0
		if s, ok := hist.Final(l, 3, 2); !ok || !model.Same(s, was) {
			t.Fatal(op, s)
		}
	}
}

// 14.2: the number of an event is its place and 1; first by places, each by itself; then by Order.
func TestFirst(t *testing.T) {
	bad := func(client, n int) api.Event { return of(client, oFlushAll(), fails(1), 1, n, 9) } // wrong by Order
	check(t, 1, []api.Event{bad(0, 1), bad(1, 2), bad(2, 3)}, 2, 3)
	check(t, 3, []api.Event{bad(0, 3), bad(1, 2), bad(2, 1)}, 2, 3)
	check(t, 2, []api.Event{bad(0, 3), bad(1, 2), bad(2, 4)}, 2, 3)
	check(t, 1, []api.Event{bad(0, 2), bad(1, 2), bad(2, 2)}, 2, 3)
	check(t, 2, []api.Event{bad(0, 3), bad(1, 2), bad(2, 2)}, 2, 3)
	check(t, 3, []api.Event{bad(0, 1), bad(1, 2), at(0, 9, 9, 9)}, 2, 3) // wrong by itself
	check(t, 3, []api.Event{bad(0, 1), bad(1, 2), at(3, 9, 9, 9), at(4, 1, 1, 1)}, 2, 3)
	check(t, 4, []api.Event{bad(0, 3), at(1, 1, 0, 0), bad(2, 4), at(1, 4, 4, 4)}, 2, 3)
	check(t, 3, []api.Event{bad(0, 5), at(1, 1, 0, 0), bad(2, 4)}, 2, 3)
	check(t, 2, []api.Event{at(0, 1, 0, 0), bad(1, 2)}, 2, 3)
	// the first wrong one ends the look: those behind it are not asked
	check(t, 2, []api.Event{of(0, oNew(), done(), 1, 1, 1), of(0, oNew(), done(), 2, 2, 2), of(0, oFetch(1), pinned(1, 2), 3, 3, 3)}, 3, 1)
	for n := range 40 {
		var l []api.Event
		for k := range 40 {
			l = append(l, at(k%3, k+1, k+1, k+1))
		}
		l[n].Res.Code = api.ErrFull
		check(t, n+1, l, 2, 3)
		l[n].Res.Code = api.ErrIO
		check(t, 0, l, 2, 3)
		l[n].Stamp = 0
		check(t, n+1, l, 2, 3)
		l[39].Client = 7
		check(t, n+1, l, 2, 3)
		l[n].Stamp = n + 1
		check(t, 40, l, 2, 3)
	}
}

// 14.2: calls take effect by Stamps, not by places, Begins or Ends; of one Stamp by places.
func TestByStamps(t *testing.T) {
	l := []api.Event{of(0, oNew(), pinned(2, 0), 1, 9, 9), of(1, oNew(), pinned(1, 0), 1, 5, 12), of(2, oNew(), done(), 2, 3, 20)}
	check(t, 0, l, 4, 3)
	s, ok := hist.Final(l, 4, 3)
	if !ok || s.Handles[0][0] != 2 || s.Handles[1][0] != 1 || s.Handles[2][0] != 0 {
		t.Fatal(s)
	}
	l[1].Stamp = 9 // the places 0 and 1 now have one Stamp
	check(t, 1, l, 4, 3)
	l[0].Res, l[1].Res = l[1].Res, l[0].Res
	check(t, 0, l, 4, 3)
	l[2].Stamp = 10 // the place 2 is last
	check(t, 1, l, 4, 3)
	l[0].Res, l[1].Res, l[2].Res = done(), pinned(1, 0), pinned(2, 0)
	check(t, 0, l, 4, 3)
}

// 14.2, Final: the state behind all, told by hand.
func TestFinal(t *testing.T) {
	s, ok := hist.Final(long(), 2, 2)
	if !ok || !slices.Equal(s.There, []bool{true, true}) || !bytes.Equal(s.Body[0], make([]byte, 16)) || !bytes.Equal(s.Body[1], append([]byte("q"), make([]byte, 15)...)) {
		t.Fatal(s, ok)
	}
	if !slices.Equal(s.Handles[0], []int{0, -1, -1, -1, -1, -1}) || !slices.Equal(s.Handles[1], []int{1, 1, 1, 1, 1, 1}) {
		t.Fatal(s)
	}
	for n := range long() { // of each front of it: what the model has there
		want := model.New(2, 2)
		for _, e := range long()[:n] {
			want, _ = model.Do(want, e.Client, e.Op)
		}
		if s, ok := hist.Final(long()[:n], 2, 2); !ok || !model.Same(s, want) {
			t.Fatal(n, s)
		}
		l := long()
		l[n].Res.Page += 5
		if s, ok := hist.Final(l, 2, 2); ok || !zero(s) {
			t.Fatal(n, s)
		}
		l = long()
		l[n].Client = 2
		if s, ok := hist.Final(l, 2, 2); ok || !zero(s) {
			t.Fatal(n, s)
		}
	}
}

// 14.2: all histories of three calls in turn, of two clients, with the right answers and wrong ones.
func TestAllCalls(t *testing.T) {
	var all []call
	for client := range 2 {
		for _, op := range []api.Op{oNew(), oFetch(0), oFetch(1), oUnpin(0), oWrite(0, 1, "a"), oRead(0, 0, 2), oDelete(0), oFlush(0)} {
			results := []api.Res{done(), pinned(0, 1), pinned(1, 0), pinned(1, 1), fails(api.ErrNone), fails(api.ErrHandle), fails(api.ErrFull), fails(api.ErrIO)}
			switch op.Kind {
			case api.ORead:
				results = []api.Res{have("\x00\x00"), have("\x00a"), fails(api.ErrHandle), fails(api.ErrIO)}
			case api.ODelete, api.OFlush:
				results = []api.Res{done(), fails(api.ErrNone), fails(api.ErrPinned), fails(api.ErrIO)}
			case api.OUnpin, api.OWrite:
				results = []api.Res{done(), fails(api.ErrHandle)}
			}
			for _, r := range results {
				all = append(all, call{client, op, r})
			}
		}
	}
	wrongs := map[int]int{}
	var grow func(calls []call)
	grow = func(calls []call) {
		for _, c := range all {
			n := append(slices.Clone(calls), c)
			quick(t, turn(n...), 2, 2, wrongs)
			if wrong, _ := plain(turn(n...), 2, 2); wrong == 0 && len(n) < 3 {
				grow(n)
			}
		}
	}
	grow(nil)
	for _, n := range []int{0, 1, 2, 3} {
		if wrongs[n] == 0 {
			t.Error(wrongs)
		}
	}
}

// chance is a call by chance: mostly of what is there.
func chance(c *rand.Rand, pages int) api.Op {
	op := api.Op{Kind: 1 + c.Intn(8), Page: c.Intn(pages), Handle: c.Intn(3), Off: c.Intn(16)}
	op.N = c.Intn(18 - op.Off)
	for range c.Intn(18 - op.Off) {
		op.Data = append(op.Data, byte(c.Intn(256)))
	}
	switch c.Intn(30) {
	case 0:
		op.Kind = c.Intn(12) - 1
	case 1:
		op.Page = c.Intn(60) - 5
	case 2:
		op.Handle = c.Intn(12) - 3
	case 3:
		op.Off = c.Intn(40) - 10
	case 4:
		op.N = c.Intn(40) - 10
	}
	return op
}

// life is a right history by chance: at each step some client begins a call, or its call takes effect, or ends; and the state behind it.
func life(c *rand.Rand, pages, clients, steps int) ([]api.Event, api.State) {
	var l []api.Event
	s := model.New(pages, clients)
	open, free := slices.Repeat([]int{-1}, clients), make([]int, clients) // each one's call, its last end
	now, last := 1, -1                                                    // last: the greatest place that took effect now
	for range steps {
		if n := c.Intn(3); n > 0 {
			now, last = now+n, -1
		}
		client := c.Intn(clients)
		at := open[client]
		switch {
		case at < 0:
			if now <= free[client] {
				now, last = free[client]+1, -1
			}
			open[client] = len(l)
			l = append(l, api.Event{Client: client, Op: chance(c, pages), Begin: now})
		case l[at].Stamp == 0:
			if last > at {
				now, last = now+1, -1
			}
			last = max(last, at)
			l[at].Stamp = now
			n, r := model.Do(s, client, l[at].Op)
			if code := api.ErrFull + c.Intn(3); c.Intn(5) == 0 && slices.Contains(mayFail[code], l[at].Op.Kind) {
				n, r = s, fails(code)
			}
			s, l[at].Res = n, r
		default:
			l[at].End, free[client], open[client] = now, now, -1
		}
	}
	for _, at := range open { // what has not ended is as the model tells: none has failed
		if at >= 0 && l[at].Stamp > 0 && l[at].Res.Code >= api.ErrFull {
			l[at].End = max(now, l[at].Stamp)
		}
	}
	return l, s
}

// spoil changes one thing of a history by chance.
func spoil(c *rand.Rand, l []api.Event) []api.Event {
	e := &l[c.Intn(len(l))]
	by := 1 + c.Intn(3)
	if c.Intn(2) == 0 {
		by = -by
	}
	switch c.Intn(14) {
	case 0:
		e.Client += by
	case 1:
		e.Begin += by
	case 2, 3:
		e.Stamp += by
	case 4:
		e.End += by
	case 5:
		e.Res.Code += by
	case 6:
		e.Res.Page += by
	case 7:
		e.Res.Handle += by
	case 8:
		e.Res.Data = append(e.Res.Data, 1)
	case 9:
		e.Op = chance(c, 4)
	case 10:
		e.Res = fails(api.ErrFull + c.Intn(3))
	case 11:
		e.End = 0
	case 12:
		o := &l[c.Intn(len(l))]
		e.Stamp, o.Stamp = o.Stamp, e.Stamp
	case 13:
		n := c.Intn(len(l))
		l = append(l[:n], l[n+1:]...)
	}
	return l
}

// 14.2: long lives, by chance: right as they are; and each with things spoilt as it is told anew.
func TestLives(t *testing.T) {
	c := rand.New(rand.NewSource(141))
	right, wrong := 0, 0
	for range 400 {
		pages, clients := 1+c.Intn(4), 1+c.Intn(6)
		if c.Intn(8) == 0 {
			pages = 48
		}
		l, s := life(c, pages, clients, 10+c.Intn(150))
		check(t, 0, l, pages, clients)
		if got, ok := hist.Final(l, pages, clients); !ok || !model.Same(got, s) {
			t.Fatal(got, s)
		}
		for range 40 {
			n := deep(l)
			for range 1 + c.Intn(2) {
				n = spoil(c, n)
				if len(n) == 0 {
					break
				}
			}
			if same(t, n, pages, clients) == 0 {
				right++
			} else {
				wrong++
			}
		}
	}
	if right < 1000 || wrong < 1000 {
		t.Error(right, wrong)
	}
}

// 14.3, T1: in the order of a right history a call that ended ahead of another's beginning stands ahead of it, each one that ended stands in it once, and in it all answers are the model's, or a failure that changes nothing.
func TestOneOrder(t *testing.T) {
	c := rand.New(rand.NewSource(142))
	failures := 0
	for range 200 {
		l, _ := life(c, 3, 5, 150)
		if hist.Check(l, 3, 5) != 0 {
			t.Fatal("not right")
		}
		place := map[int]int{} // of each event that took effect: its place in the order
		s := model.New(3, 5)
		for at, k := range hist.Order(l) {
			place[k] = at
			n, r := model.Do(s, l[k].Client, l[k].Op)
			switch {
			case l[k].End == 0 || model.SameRes(r, l[k].Res):
				s = n
			case hist.Bad(l[k].Op, l[k].Res.Code):
				failures++
			default:
				t.Fatal("the order does not explain", l[k])
			}
		}
		for a := range l {
			_, is := place[a]
			if l[a].End > 0 && !is {
				t.Fatal("ended, and not in the order", l[a])
			}
			for b := range l {
				if _, also := place[b]; is && also && l[a].End > 0 && l[a].End < l[b].Begin && place[a] > place[b] {
					t.Fatal("ended ahead, and stands behind", l[a], l[b])
				}
			}
		}
		if got, ok := hist.Final(l, 3, 5); !ok || !model.Same(got, s) {
			t.Fatal("another state", got, s)
		}
	}
	if failures == 0 {
		t.Error("no failures")
	}
}

// turns are all orders of the numbers below n.
func turns(n int) [][]int {
	if n == 0 {
		return [][]int{nil}
	}
	var all [][]int
	for _, p := range turns(n - 1) {
		for at := range n {
			all = append(all, slices.Insert(slices.Clone(p), at, n-1))
		}
	}
	return all
}

// 14.3: calls that are made at once may be explained by one order alone, and no other one will do.
func TestTheOrderExplains(t *testing.T) {
	for _, told := range turns(4) { // told[k]: the page that client k was told
		for _, stamps := range turns(4) {
			var l []api.Event
			for client := range 4 {
				l = append(l, of(client, oNew(), pinned(told[client], 0), 1, 1+stamps[client], 5))
			}
			want := 0
			for turn := range 4 { // the first one by Stamps that was told another page
				if k := slices.Index(stamps, turn); told[k] != turn && want == 0 {
					want = k + 1
				}
			}
			check(t, want, l, 4, 4)
			if (want == 0) != slices.Equal(told, stamps) {
				t.Fatal(told, stamps)
			}
		}
	}
	// the reader was told what the last writer ahead of it wrote
	front := []api.Event{of(0, oNew(), done(), 1, 1, 1), of(1, oFetch(0), done(), 2, 2, 2), of(2, oFetch(0), done(), 3, 3, 3)}
	for _, stamps := range turns(3) {
		for _, d := range []string{"\x00", "a", "b"} {
			l := append(slices.Clone(front), of(0, oWrite(0, 0, "a"), done(), 4, 4+stamps[0], 9), of(1, oWrite(0, 0, "b"), done(), 4, 4+stamps[1], 9), of(2, oRead(0, 0, 1), have(d), 4, 4+stamps[2], 9))
			seen := "\x00"
			for turn := range stamps[2] {
				seen = string("ab"[slices.Index(stamps, turn)])
			}
			want := 0
			if seen != d {
				want = 6
			}
			check(t, want, l, 1, 3)
		}
	}
}

// Rule 2: what is answered is the caller's own: of Order and of Final, lists within, too; and what was handed in stays.
func TestAnswersAreTheCallers(t *testing.T) {
	l := append(long(), of(1, oWrite(0, 0, "0123456789abcdef"), done(), 50, 50, 50))
	was := deep(l)
	a, b := hist.Order(l), hist.Order(l)
	clear(a[:cap(a)])
	if !slices.Equal(b, order(l)) || !slices.Equal(hist.Order(l), b) {
		t.Error("orders share")
	}
	for _, h := range [][]api.Event{nil, l, l[:1], l[:20], l[:36]} {
		x, _ := hist.Final(h, 2, 2)
		y, _ := hist.Final(h, 2, 2)
		z := model.New(2, 2)
		for _, e := range h {
			z, _ = model.Do(z, e.Client, e.Op)
		}
		for k := range x.There {
			x.There[k] = !x.There[k]
		}
		for k := range x.Body {
			for i := range x.Body[k][:cap(x.Body[k])] {
				x.Body[k][:cap(x.Body[k])][i] ^= 0xA5
			}
			if k == 0 && !bytes.Equal(x.Body[1], z.Body[1]) {
				t.Error("bodies share")
			}
		}
		for k := range x.Handles {
			for i := range x.Handles[k][:cap(x.Handles[k])] {
				x.Handles[k][:cap(x.Handles[k])][i] += 7
			}
			if k == 0 && !slices.Equal(x.Handles[1], z.Handles[1]) {
				t.Error("handles share")
			}
		}
		if again, ok := hist.Final(h, 2, 2); !ok || !model.Same(y, z) || !model.Same(again, z) || !alike(l, was) {
			t.Error("answers share", y, z)
		}
	}
	s, _ := hist.Final(l, 2, 2)
	for k := range l { // nor is anything kept of what was handed in
		clear(l[k].Op.Data)
		clear(l[k].Res.Data)
	}
	if string(s.Body[1]) != "0123456789abcdef" {
		t.Error("the state shares with the history", s)
	}
}

// Rule 2: lists of the history may share: they are only read, and what stands behind their ends is left.
func TestSharedIsTaken(t *testing.T) {
	d := []byte("abcdefgh")
	l := turn(call{0, oNew(), done()}, call{0, api.Op{Kind: api.OWrite, Data: d[:4]}, done()}, call{0, oRead(0, 0, 4), api.Res{Data: d[:4]}}, call{0, api.Op{Kind: api.OWrite, Off: 2, Data: d[:6]}, done()}, call{0, oRead(0, 2, 6), api.Res{Data: d[:6]}})
	check(t, 0, l, 1, 1)
	check(t, 0, l[:3], 1, 1)
	if string(d) != "abcdefgh" {
		t.Error(string(d))
	}
	front := l[:2]
	hist.Check(front, 1, 1)
	hist.Final(front, 1, 1)
	hist.Order(front)
	if l[2].Op.Kind != api.ORead {
		t.Error("what stands behind was changed", l[2])
	}
}

// Rule 3: the same again, and nothing is kept from call to call.
func TestAgain(t *testing.T) {
	c := rand.New(rand.NewSource(143))
	var lives [][]api.Event
	var told []int
	for k := range 60 {
		l, _ := life(c, 3, 3, 60)
		if k%2 == 1 {
			l = spoil(c, l)
		}
		lives, told = append(lives, l), append(told, hist.Check(l, 3, 3))
	}
	for range 3 {
		for k, l := range lives {
			if hist.Check(l, 3, 3) != told[k] || hist.Check(l, 0, 3) != -1 {
				t.Fatal("told otherwise", l)
			}
			if _, ok := hist.Final(l, 3, 3); ok != (told[k] == 0) {
				t.Fatal("told otherwise", l)
			}
		}
	}
}

// Rule 1: numbers at the ends of int's range, in all parts, are told as any others.
func TestEnds(t *testing.T) {
	c := rand.New(rand.NewSource(144))
	numbers := slices.Concat(ends, []int{-1, 0, 1, 2, 3})
	any := func() int { return numbers[c.Intn(len(numbers))] }
	for range 30000 {
		var l []api.Event
		for range 1 + c.Intn(3) {
			e := at(c.Intn(2), 1, 1, 1)
			e.Op = api.Op{Kind: c.Intn(10), Page: any(), Handle: any(), Off: any(), N: any(), Data: make([]byte, c.Intn(20))}
			e.Begin, e.Stamp, e.End = any(), any(), any()
			if c.Intn(2) == 0 {
				e.Begin, e.Stamp, e.End = 1+len(l), 1+len(l), 1+len(l)
			}
			_, e.Res = model.Do(model.New(2, 2), e.Client, e.Op)
			if c.Intn(4) == 0 {
				e.Res = api.Res{Code: any(), Page: any(), Handle: any()}
			}
			l = append(l, e)
		}
		same(t, l, 2, 2)
	}
	l := []api.Event{of(0, oNew(), done(), 1, math.MaxInt, math.MaxInt), of(1, oFetch(0), done(), math.MaxInt, math.MaxInt, math.MaxInt)}
	check(t, 0, l, 1, 2)
	l[0].Stamp = math.MaxInt - 1
	check(t, 0, l, 1, 2)
}

// Rule 1: a long history of few clients, right but for its last event, whatever stands far ahead.
func TestLong(t *testing.T) {
	var l []api.Event
	for k := range 100000 {
		l = append(l, at(k%6, 2*k+1, 2*k+3, 2*k+11))
	}
	if hist.Check(l, 1, 6) != 0 {
		t.Fatal(hist.Check(l, 1, 6))
	}
	if got := hist.Order(l); len(got) != len(l) || !slices.IsSorted(got) {
		t.Fatal("Order")
	}
	last := &l[len(l)-1]
	last.Res.Code = api.ErrFull
	if hist.Check(l, 1, 6) != len(l) {
		t.Fatal("a wrong answer")
	}
	last.Stamp = last.Begin - 1
	if hist.Check(l, 1, 6) != len(l) {
		t.Fatal("a wrong Stamp")
	}
	if s, ok := hist.Final(l, 1, 6); ok || !zero(s) {
		t.Fatal(s)
	}
}
