package script_test

import (
	"bytes"
	"math"
	"math/rand"
	"slices"
	"testing"

	"lavabo/api"
	"lavabo/model"
	"lavabo/script"
)

// edges are bytes at the ends of a byte's range, and on both sides of what the chapter takes them by.
var edges = []byte{0, 1, 2, 3, 4, 5, 6, 7, 8, 9, 15, 16, 17, 31, 32, 33, 47, 48, 49, 63, 64, 127, 128, 129, 239, 240, 247, 248, 253, 254, 255}

// confs are some that may be: the least, the greatest, and others.
var confs = []api.Conf{
	{Pages: 1, Frames: 1, Shards: 1, Clients: 1},
	{Pages: 48, Frames: 32, Shards: 4, Clients: 6},
	{Pages: 5, Frames: 6, Shards: 3, Clients: 2},
	{Pages: 12, Frames: 4, Shards: 4, Clients: 3},
	{Pages: 31, Frames: 2, Shards: 2, Clients: 4},
	{Pages: 47, Frames: 17, Shards: 1, Clients: 5},
}

// rest is n modulo m, by taking m away as often as may be.
func rest(n, m int) int {
	for n >= m {
		n -= m
	}
	return n
}

// parts are those that the calls of each kind have (api's remarks tell so, too): P page, H handle, O off, N how many, D data.
var parts = []string{1: "", 2: "P", 3: "HON", 4: "HOD", 5: "H", 6: "P", 7: "", 8: "P"}

// plainOp is Op told anew from 15.1's words, of a conf that may be.
func plainOp(a, b, d byte, c api.Conf) api.Op {
	op := api.Op{Kind: 1 + rest(int(a), 8)}
	for _, part := range parts[op.Kind] {
		switch part {
		case 'P':
			op.Page = rest(int(b), c.Pages+1)
		case 'H':
			op.Handle = rest(int(b), 7)
		case 'O':
			op.Off = int(d & 0x0F)
		case 'N':
			op.N = int(d >> 4)
		case 'D':
			for range d >> 4 {
				op.Data = append(op.Data, b)
			}
		}
	}
	return op
}

// plainStep is the step of four bytes told anew from 15.1's words, of a conf that may be.
func plainStep(k, x, y, z byte, c api.Conf) api.Step {
	switch k & 7 {
	case 0, 1, 2:
		return api.Step{Kind: 1, Client: rest(int(x), c.Clients), Op: plainOp(k>>3, y, z, c)}
	case 3, 4, 5:
		return api.Step{Kind: 2, N: int(x)<<8 | int(y)}
	case 6:
		if y&1 == 1 {
			return api.Step{Kind: 5, N: c.Shards + rest(int(z), 33-c.Shards)}
		}
		return api.Step{Kind: 3, N: int(x & 0x0F)}
	}
	if x == 0xFF {
		return api.Step{Kind: 4, Bits: []byte{y, z}}
	}
	return api.Step{Kind: 6, N: int(x & 0x0F), To: rest(int(y), c.Shards)}
}

// plain is All told anew, of a conf that may be.
func plain(b []byte, c api.Conf) []api.Step {
	var l []api.Step
	for len(b) > 3 {
		l = append(l, plainStep(b[0], b[1], b[2], b[3], c))
		b = b[4:]
	}
	return l
}

func alikeOp(a, b api.Op) bool {
	return a.Kind == b.Kind && a.Page == b.Page && a.Handle == b.Handle && a.Off == b.Off && a.N == b.N && bytes.Equal(a.Data, b.Data)
}

func alikeStep(a, b api.Step) bool {
	return a.Kind == b.Kind && a.Client == b.Client && a.N == b.N && a.To == b.To && alikeOp(a.Op, b.Op) && bytes.Equal(a.Bits, b.Bits)
}

func alike(a, b []api.Step) bool { return slices.EqualFunc(a, b, alikeStep) }

// check holds All of a conf that may be against the one told anew, step by step, and that the bytes stay.
func check(t *testing.T, b []byte, c api.Conf) {
	t.Helper()
	was := bytes.Clone(b)
	got, want := script.All(b, c), plain(was, c)
	if !bytes.Equal(b, was) {
		t.Fatalf("All(%v, %v) changed the bytes: %v", was, c, b)
	}
	if len(got) != len(want) {
		t.Fatalf("All of %d bytes, %v: %d steps, want %d", len(b), c, len(got), len(want))
	}
	for at, s := range got {
		if !alikeStep(s, want[at]) {
			t.Fatalf("All, %v: step %d of %v is %v, want %v", c, at, b[4*at:4*at+4], s, want[at])
		}
	}
}

// checkOp holds Op of a conf that may be against the one told anew.
func checkOp(t *testing.T, a, b, d byte, c api.Conf) {
	t.Helper()
	if got, want := script.Op(a, b, d, c), plainOp(a, b, d, c); !alikeOp(got, want) {
		t.Fatalf("Op(%d, %d, %d, %v) = %v, want %v", a, b, d, c, got, want)
	}
}

// one is the step of four bytes.
func one(t *testing.T, k, x, y, z byte, c api.Conf) api.Step {
	t.Helper()
	l := script.All([]byte{k, x, y, z}, c)
	if len(l) != 1 {
		t.Fatalf("%d steps of %v, %v", len(l), []byte{k, x, y, z}, c)
	}
	return l[0]
}

// word is a text of so many bytes of one kind.
func word(c byte, n int) []byte { return bytes.Repeat([]byte{c}, n) }

// 15.1, Op: worked out by hand: every kind, and the edges of what each part is taken by.
func TestOpByHand(t *testing.T) {
	c := api.Conf{Pages: 9, Frames: 8, Shards: 2, Clients: 3}
	for i, x := range []struct {
		a, b, d byte
		want    api.Op
	}{
		{0, 0, 0, api.Op{Kind: api.ONew}},
		{8, 255, 255, api.Op{Kind: api.ONew}},
		{248, 5, 77, api.Op{Kind: api.ONew}},
		{1, 0, 0xFF, api.Op{Kind: api.OFetch}},
		{1, 8, 0xFF, api.Op{Kind: api.OFetch, Page: 8}},
		{9, 9, 0, api.Op{Kind: api.OFetch, Page: 9}}, // no such page
		{249, 10, 0, api.Op{Kind: api.OFetch}},
		{1, 255, 1, api.Op{Kind: api.OFetch, Page: 5}},
		{2, 0, 0, api.Op{Kind: api.ORead}},
		{2, 5, 0x0F, api.Op{Kind: api.ORead, Handle: 5, Off: 15}},
		{10, 6, 0x10, api.Op{Kind: api.ORead, Handle: 6, N: 1}}, // no such handle
		{250, 7, 0xF0, api.Op{Kind: api.ORead, N: 15}},
		{2, 255, 0xFF, api.Op{Kind: api.ORead, Handle: 3, Off: 15, N: 15}},
		{2, 20, 0x79, api.Op{Kind: api.ORead, Handle: 6, Off: 9, N: 7}},
		{3, 0, 0, api.Op{Kind: api.OWrite}},
		{3, 6, 0x0F, api.Op{Kind: api.OWrite, Handle: 6, Off: 15}},
		{11, 7, 0x10, api.Op{Kind: api.OWrite, Data: []byte{7}}},
		{251, 0, 0x31, api.Op{Kind: api.OWrite, Off: 1, Data: []byte{0, 0, 0}}},
		{3, 255, 0xFF, api.Op{Kind: api.OWrite, Handle: 3, Off: 15, Data: word(255, 15)}},
		{3, 128, 0xF8, api.Op{Kind: api.OWrite, Handle: 2, Off: 8, Data: word(128, 15)}},
		{4, 0, 255, api.Op{Kind: api.OUnpin}},
		{12, 13, 255, api.Op{Kind: api.OUnpin, Handle: 6}},
		{252, 14, 255, api.Op{Kind: api.OUnpin}},
		{5, 9, 255, api.Op{Kind: api.OFlush, Page: 9}},
		{253, 10, 255, api.Op{Kind: api.OFlush}},
		{6, 9, 255, api.Op{Kind: api.OFlushAll}},
		{254, 1, 16, api.Op{Kind: api.OFlushAll}},
		{7, 9, 255, api.Op{Kind: api.ODelete, Page: 9}},
		{255, 11, 255, api.Op{Kind: api.ODelete, Page: 1}},
	} {
		if got := script.Op(x.a, x.b, x.d, c); !alikeOp(got, x.want) {
			t.Errorf("%d: Op(%d, %d, %d) = %v, want %v", i, x.a, x.b, x.d, got, x.want)
		}
	}
}

// 15.1, All: worked out by hand: every kind of step in one script, and the edges of what each part is taken by.
func TestAllByHand(t *testing.T) {
	c := api.Conf{Pages: 9, Frames: 8, Shards: 2, Clients: 3}
	b, want := []byte{}, []api.Step{}
	for _, x := range []struct {
		four [4]byte
		want api.Step
	}{
		{[4]byte{0, 0, 0, 0}, api.Step{Kind: api.SCall, Op: api.Op{Kind: api.ONew}}},
		{[4]byte{1, 2, 255, 255}, api.Step{Kind: api.SCall, Client: 2, Op: api.Op{Kind: api.ONew}}},
		{[4]byte{2, 3, 7, 7}, api.Step{Kind: api.SCall, Op: api.Op{Kind: api.ONew}}},
		{[4]byte{8, 255, 9, 0}, api.Step{Kind: api.SCall, Op: api.Op{Kind: api.OFetch, Page: 9}}},
		{[4]byte{17, 254, 20, 0x79}, api.Step{Kind: api.SCall, Client: 2, Op: api.Op{Kind: api.ORead, Handle: 6, Off: 9, N: 7}}},
		{[4]byte{26, 100, 77, 0x2F}, api.Step{Kind: api.SCall, Client: 1, Op: api.Op{Kind: api.OWrite, Off: 15, Data: []byte{77, 77}}}},
		{[4]byte{32, 1, 5, 1}, api.Step{Kind: api.SCall, Client: 1, Op: api.Op{Kind: api.OUnpin, Handle: 5}}},
		{[4]byte{41, 0, 19, 1}, api.Step{Kind: api.SCall, Op: api.Op{Kind: api.OFlush, Page: 9}}},
		{[4]byte{50, 0, 19, 1}, api.Step{Kind: api.SCall, Op: api.Op{Kind: api.OFlushAll}}},
		{[4]byte{56, 5, 12, 1}, api.Step{Kind: api.SCall, Client: 2, Op: api.Op{Kind: api.ODelete, Page: 2}}},
		{[4]byte{250, 255, 12, 1}, api.Step{Kind: api.SCall, Op: api.Op{Kind: api.ODelete, Page: 2}}},
		{[4]byte{3, 0, 0, 255}, api.Step{Kind: api.SRun}},
		{[4]byte{4, 0, 255, 0}, api.Step{Kind: api.SRun, N: 255}},
		{[4]byte{5, 1, 0, 9}, api.Step{Kind: api.SRun, N: 256}},
		{[4]byte{11, 255, 255, 255}, api.Step{Kind: api.SRun, N: 65535}},
		{[4]byte{253, 128, 127, 255}, api.Step{Kind: api.SRun, N: 32895}},
		{[4]byte{6, 0, 0, 255}, api.Step{Kind: api.SFault}},
		{[4]byte{6, 15, 254, 255}, api.Step{Kind: api.SFault, N: 15}},
		{[4]byte{14, 16, 2, 0}, api.Step{Kind: api.SFault}},
		{[4]byte{254, 255, 128, 0}, api.Step{Kind: api.SFault, N: 15}},
		{[4]byte{6, 255, 1, 0}, api.Step{Kind: api.SResize, N: 2}},
		{[4]byte{6, 0, 255, 30}, api.Step{Kind: api.SResize, N: 32}},
		{[4]byte{22, 0, 3, 31}, api.Step{Kind: api.SResize, N: 2}},
		{[4]byte{254, 0, 129, 255}, api.Step{Kind: api.SResize, N: 9}},
		{[4]byte{7, 0, 0, 255}, api.Step{Kind: api.SMove}},
		{[4]byte{7, 15, 1, 255}, api.Step{Kind: api.SMove, N: 15, To: 1}},
		{[4]byte{15, 16, 2, 255}, api.Step{Kind: api.SMove}},
		{[4]byte{255, 254, 255, 1}, api.Step{Kind: api.SMove, N: 14, To: 1}},
		{[4]byte{7, 255, 0, 0}, api.Step{Kind: api.SCrash, Bits: []byte{0, 0}}},
		{[4]byte{255, 255, 255, 1}, api.Step{Kind: api.SCrash, Bits: []byte{255, 1}}},
		{[4]byte{71, 255, 1, 0xE4}, api.Step{Kind: api.SCrash, Bits: []byte{1, 0xE4}}},
	} {
		if got := one(t, x.four[0], x.four[1], x.four[2], x.four[3], c); !alikeStep(got, x.want) {
			t.Errorf("All(%v) = %v, want %v", x.four, got, x.want)
		}
		b, want = append(b, x.four[:]...), append(want, x.want)
	}
	if got := script.All(b, c); !alike(got, want) {
		t.Errorf("in one script: %v, want %v", got, want)
	}
}

// 15.1, Op: every kind and every byte of the one part beside edges of the other.
func TestAllOps(t *testing.T) {
	for _, c := range confs[:3] {
		for a := range 256 {
			for free := range 256 {
				for _, edge := range edges {
					checkOp(t, byte(a), byte(free), edge, c)
					checkOp(t, byte(a), edge, byte(free), c)
				}
			}
		}
	}
}

// 15.1, Op: all bytes of both parts of those that have both.
func TestReadsAndWrites(t *testing.T) {
	for _, a := range []byte{2, 3} {
		for b := range 256 {
			for d := range 256 {
				checkOp(t, a, byte(b), byte(d), confs[2])
			}
		}
	}
}

// 15.1, Op: each page, and the one that is none, of each number of pages, and no other.
func TestPages(t *testing.T) {
	for pages := 1; pages <= 48; pages++ {
		c := api.Conf{Pages: pages, Frames: 3, Shards: 2, Clients: 2}
		for _, a := range []byte{1, 5, 7} {
			met := map[int]int{}
			for b := range 256 {
				op := script.Op(a, byte(b), byte(b), c)
				if op.Page != b%(pages+1) {
					t.Fatal(pages, a, b, op)
				}
				met[op.Page]++
			}
			if len(met) != pages+1 || met[pages] == 0 {
				t.Fatal(pages, a, met)
			}
		}
	}
}

// 15.1, Op: parts that a kind has not are 0, of every kind, whatever the bytes are.
func TestPartsThatAreNot(t *testing.T) {
	c := confs[1]
	for a := range 256 {
		var page, handle, off, n, data bool
		for b := range 256 {
			for _, d := range edges {
				op := script.Op(byte(a), byte(b), d, c)
				page, handle = page || op.Page != 0, handle || op.Handle != 0
				off, n, data = off || op.Off != 0, n || op.N != 0, data || len(op.Data) != 0
			}
		}
		for part, is := range map[rune]bool{'P': page, 'H': handle, 'O': off, 'N': n, 'D': data} {
			if is != slices.Contains([]rune(parts[a%8+1]), part) {
				t.Errorf("kind %d: part %c: %v", a%8+1, part, is)
			}
		}
	}
}

// 15.1, All: every first byte and every byte of each other part beside edges of the others, of some confs.
func TestAllSteps(t *testing.T) {
	few := []byte{0, 1, 254, 255}
	for _, c := range confs[1:3] {
		var b []byte
		for k := range 256 {
			for free := range 256 {
				k, f := byte(k), byte(free)
				for _, p := range few {
					for _, q := range few {
						b = append(b, k, f, p, q, k, p, f, q, k, p, q, f)
					}
				}
			}
			check(t, b, c)
			b = b[:0]
		}
	}
}

// 15.1: every conf that may be, with a step of each kind of call and of each other kind.
func TestEveryConf(t *testing.T) {
	var b []byte
	for k := range 64 {
		b = append(b, byte(k), byte(37*k+250), byte(53*k+201), byte(91*k+83))
	}
	for _, z := range []byte{0, 28, 29, 30, 31, 32, 33, 61, 255} {
		b = append(b, 6, 0, 1, z, 7, z, z, 0, 0, z, z, z, 8, z, 255-z, 0)
	}
	n := 0
	for pages := 1; pages <= 48; pages++ {
		for shards := 1; shards <= 4; shards++ {
			for frames := shards; frames <= 32; frames++ {
				for clients := 1; clients <= 6; clients++ {
					c := api.Conf{Pages: pages, Frames: frames, Shards: shards, Clients: clients}
					check(t, b, c)
					checkOp(t, byte(n), byte(n/7), byte(n/3), c)
					n++
				}
			}
		}
	}
	if n != 48*6*(32+31+30+29) {
		t.Fatal(n)
	}
}

// nothing holds that of a conf that may not be there is nothing, whatever the bytes are.
func nothing(t *testing.T, c api.Conf) {
	t.Helper()
	var b []byte
	for k := range 64 {
		b = append(b, byte(k), 255, byte(k+9), 0x35)
		if op := script.Op(byte(k), byte(k+9), 0x35, c); !alikeOp(op, api.Op{}) {
			t.Fatalf("Op(%d, ..) of %v = %v", k, c, op)
		}
	}
	for _, b := range [][]byte{nil, {}, b[:1], b[:4], b[:9], b} {
		if l := script.All(b, c); len(l) != 0 {
			t.Fatalf("All of %d bytes of %v = %v", len(b), c, l)
		}
	}
}

// 15.1: nothing of a conf that may not be: each number at and beyond each edge, and where a narrower kind of number would wrap round.
func TestNoConf(t *testing.T) {
	ends := []int{math.MinInt, math.MinInt + 1, math.MinInt32, -1 << 32, -257, -256, -255, -48, -2, -1, 0, 256, 257, 258, 260, 1 << 16, 1<<16 + 2, math.MaxInt32, 1 << 32, 1<<32 + 1, 1<<32 + 4, math.MaxInt - 1, math.MaxInt}
	for n := 5; n < 60; n++ {
		ends = append(ends, n)
	}
	for _, c := range confs {
		for _, n := range ends {
			for part, most := range []int{48, 32, 4, 6} {
				d := c
				*[]*int{&d.Pages, &d.Frames, &d.Shards, &d.Clients}[part] = n
				if n < 1 || n > most || d.Frames < d.Shards {
					nothing(t, d)
				}
			}
			nothing(t, api.Conf{Pages: n, Frames: n, Shards: n, Clients: n + 7})
			nothing(t, api.Conf{Pages: 48, Frames: n, Shards: max(n, 5), Clients: 1})
			nothing(t, api.Conf{Pages: 48, Frames: min(n, 0), Shards: min(n, 0), Clients: 1})
		}
	}
	for shards := 2; shards <= 4; shards++ {
		for frames := 1; frames < shards; frames++ {
			nothing(t, api.Conf{Pages: 5, Frames: frames, Shards: shards, Clients: 2})
		}
	}
	nothing(t, api.Conf{})
}

// 15.1: four bytes a step, as long as there are four; fewer at the end are none.
func TestFourBytes(t *testing.T) {
	b := make([]byte, 300)
	for at := range b {
		b[at] = byte(7 * at)
	}
	for _, c := range confs {
		all := script.All(b, c)
		if len(all) != 75 {
			t.Fatal(len(all))
		}
		for n := range len(b) + 1 {
			l := script.All(b[:n:n], c)
			if len(l) != n/4 || !alike(l, all[:n/4]) {
				t.Fatalf("%d bytes: %v", n, l)
			}
			if l = script.All(b[:n], c); !alike(l, all[:n/4]) { // what is behind the bytes is none of them
				t.Fatalf("%d bytes ahead of others: %v", n, l)
			}
		}
		if len(script.All(nil, c)) != 0 || len(script.All([]byte{}, c)) != 0 || len(script.All([]byte{7, 255, 3}, c)) != 0 {
			t.Fatal("steps of too few bytes")
		}
	}
}

// 15.1: a step hangs on its own four bytes alone, wherever they stand.
func TestStepsAreByThemselves(t *testing.T) {
	chance := rand.New(rand.NewSource(151))
	for range 300 {
		c := confs[chance.Intn(len(confs))]
		b := make([]byte, 4*chance.Intn(20))
		chance.Read(b)
		a := make([]byte, 4*chance.Intn(20)+chance.Intn(4))
		chance.Read(a)
		want := append(script.All(b, c), script.All(a, c)...)
		if got := script.All(slices.Concat(b, a), c); !alike(got, want) {
			t.Fatalf("All(%v and %v) = %v, want %v", b, a, got, want)
		}
	}
}

// 15.1: a run's N is told by both bytes, all of them, whichever of the three first bytes it is and whatever the last is.
func TestRuns(t *testing.T) {
	var b []byte
	for n := range 1 << 16 {
		b = append(b, byte(8*(n%32)+3+n%3), byte(n>>8), byte(n), byte(n*31))
	}
	for n, s := range script.All(b, confs[3]) {
		if !alikeStep(s, api.Step{Kind: api.SRun, N: n}) {
			t.Fatalf("run %d: %v", n, s)
		}
	}
}

// 15.1: a call's client is one that there is, each of them, and its Op that of k / 8 and the last two bytes.
func TestCalls(t *testing.T) {
	for clients := 1; clients <= 6; clients++ {
		c := api.Conf{Pages: 20, Frames: 9, Shards: 3, Clients: clients}
		for x := range 256 {
			for kind := range 32 {
				for turn := range 3 {
					y, z := byte(x*7+kind), byte(x*13+kind)
					s := one(t, byte(8*kind+turn), byte(x), y, z, c)
					want := api.Step{Kind: api.SCall, Client: x % clients, Op: script.Op(byte(kind), y, z, c)}
					if !alikeStep(s, want) || s.Op.Kind != kind%8+1 {
						t.Fatalf("%v, want %v", s, want)
					}
				}
			}
		}
	}
}

// 15.1: a fault where y is even, of each number below 16; a resize where y is odd, to each number from Shards to the greatest.
func TestFaultsAndResizes(t *testing.T) {
	for shards := 1; shards <= 4; shards++ {
		c := api.Conf{Pages: 3, Frames: 4, Shards: shards, Clients: 1}
		faults, sizes := map[int]int{}, map[int]int{}
		for y := range 256 {
			for free := range 256 {
				k, f := byte(8*(free%32)+6), byte(free)
				if y%2 == 0 {
					s := one(t, k, f, byte(y), 255-f, c)
					if !alikeStep(s, api.Step{Kind: api.SFault, N: free % 16}) {
						t.Fatal(y, free, s)
					}
					faults[s.N]++
					continue
				}
				s := one(t, k, 255-f, byte(y), f, c)
				if !alikeStep(s, api.Step{Kind: api.SResize, N: shards + free%(32-shards+1)}) {
					t.Fatal(y, free, s)
				}
				if s.N < shards || s.N > 32 {
					t.Fatal("no such size", s)
				}
				sizes[s.N]++
			}
		}
		if len(faults) != 16 || len(sizes) != 32-shards+1 {
			t.Fatal(shards, faults, sizes)
		}
	}
}

// 15.1: a move of each bucket to each shard; but of x 255 a crash with the last two bytes.
func TestMovesAndCrashes(t *testing.T) {
	for shards := 1; shards <= 4; shards++ {
		c := api.Conf{Pages: 3, Frames: 4, Shards: shards, Clients: 1}
		type move struct{ bucket, to int }
		moves := map[move]int{}
		for x := range 255 {
			for y := range 256 {
				s := one(t, byte(8*(y%32)+7), byte(x), byte(y), byte(x*y), c)
				if !alikeStep(s, api.Step{Kind: api.SMove, N: x % 16, To: y % shards}) {
					t.Fatal(x, y, s)
				}
				moves[move{s.N, s.To}]++
			}
		}
		if len(moves) != 16*shards {
			t.Fatal(moves)
		}
		for y := range 256 {
			for z := range 256 {
				s := one(t, byte(8*(z%32)+7), 255, byte(y), byte(z), c)
				if !alikeStep(s, api.Step{Kind: api.SCrash, Bits: []byte{byte(y), byte(z)}}) {
					t.Fatal(y, z, s)
				}
			}
		}
	}
}

// 15.1: x 255 is a crash in a move's place alone.
func TestNoOtherCrashes(t *testing.T) {
	for _, c := range confs {
		for k := range 256 {
			for _, y := range edges {
				s := one(t, byte(k), 255, y, 1, c)
				if (s.Kind == api.SCrash) != (k%8 == 7) || (len(s.Bits) > 0) != (k%8 == 7) {
					t.Fatal(k, y, s)
				}
			}
		}
	}
}

// may is whether a step is one of a pool of that conf, so far as its parts tell, and has no others.
func may(s api.Step, c api.Conf) bool {
	bare := api.Step{Kind: s.Kind}
	ok := false
	switch s.Kind {
	case api.SCall:
		bare.Client, bare.Op = s.Client, s.Op
		ok = s.Client >= 0 && s.Client < c.Clients && mayOp(s.Op, c)
	case api.SRun:
		bare.N = s.N
		ok = s.N >= 0 && s.N < 1<<16
	case api.SFault:
		bare.N = s.N
		ok = s.N >= 0 && s.N < 16
	case api.SCrash:
		bare.Bits = s.Bits
		ok = len(s.Bits) == 2
	case api.SResize:
		bare.N = s.N
		ok = s.N >= c.Shards && s.N <= api.MaxFrames
	case api.SMove:
		bare.N, bare.To = s.N, s.To
		ok = s.N >= 0 && s.N < api.Buckets && s.To >= 0 && s.To < c.Shards
	}
	return ok && alikeStep(s, bare)
}

// mayOp is whether a call is one that the model knows, with numbers from 0 to one that is none.
func mayOp(op api.Op, c api.Conf) bool {
	return op.Kind >= api.ONew && op.Kind <= api.ODelete &&
		op.Page >= 0 && op.Page <= c.Pages && op.Handle >= 0 && op.Handle <= api.MaxHandles &&
		op.Off >= 0 && op.Off < api.Size && op.N >= 0 && op.N < api.Size && len(op.Data) < api.Size
}

// 15.2: any bytes are a script: so many steps as there are fours, each of them one that there is.
func TestAnyBytes(t *testing.T) {
	chance := rand.New(rand.NewSource(152))
	holds := func(b []byte, c api.Conf) {
		t.Helper()
		check(t, b, c)
		l := script.All(b, c)
		if len(l) != len(b)/4 {
			t.Fatalf("%d steps of %d bytes", len(l), len(b))
		}
		for at, s := range l {
			if !may(s, c) {
				t.Fatalf("%v of %v is %v", b[4*at:4*at+4], c, s)
			}
		}
	}
	for _, c := range confs {
		for k := range 256 {
			holds(word(byte(k), 23), c)
		}
		for _, k := range edges {
			for _, x := range edges {
				var b []byte
				for _, y := range edges {
					for _, z := range edges {
						b = append(b, k, x, y, z)
					}
				}
				holds(b, c)
			}
		}
	}
	for range 2000 {
		c := api.Conf{Pages: 1 + chance.Intn(48), Shards: 1 + chance.Intn(4), Clients: 1 + chance.Intn(6)}
		c.Frames = c.Shards + chance.Intn(32-c.Shards+1)
		b := make([]byte, chance.Intn(200))
		chance.Read(b)
		holds(b, c)
	}
}

// 15.2: what bytes tell lives: the model makes each call, knows each kind, and of all its errors each is met that it may tell.
func TestCallsLive(t *testing.T) {
	c := api.Conf{Pages: 5, Frames: 4, Shards: 2, Clients: 3}
	chance := rand.New(rand.NewSource(153))
	b := make([]byte, 40000)
	chance.Read(b)
	s := model.New(c.Pages, c.Clients)
	met := map[int]int{}
	for _, step := range script.All(b, c) {
		if step.Kind != api.SCall {
			continue
		}
		n, r := model.Do(s, step.Client, step.Op)
		if none := len(parts[step.Op.Kind]) > 0 && parts[step.Op.Kind][0] == 'P' && step.Op.Page == c.Pages; (r.Code == api.ErrArg) != none {
			t.Fatal(step, r)
		}
		met[r.Code]++
		s = n
	}
	for _, code := range []int{api.OK, api.ErrArg, api.ErrNone, api.ErrPages, api.ErrHandles, api.ErrHandle, api.ErrRange, api.ErrPinned} {
		if met[code] == 0 {
			t.Errorf("no call tells %d", code)
		}
	}
}

// Rule 2: what is handed in is not kept, and what is answered is the caller's own, lists within, too.
func TestAnswersAreTheCallers(t *testing.T) {
	c := confs[2]
	b := []byte{7, 255, 1, 2, 24, 0, 13, 0x23, 7, 255, 1, 2, 25, 0, 13, 0x23, 26, 0, 14, 0x33}
	was := bytes.Clone(b)
	first, want := script.All(b, c), plain(b, c)
	for at := range b {
		b[at] = 99
	}
	if !alike(first, want) {
		t.Fatal("the bytes were kept", first)
	}
	second := script.All(was, c)
	for at := range first {
		s := &first[at]
		for _, l := range []*[]byte{&s.Bits, &s.Op.Data} {
			for i := range *l {
				(*l)[i] = 77
			}
			for range 40 {
				*l = append(*l, 66)
			}
			for i := range *l {
				(*l)[i] = 55
			}
		}
		if !alike(first[at+1:], want[at+1:]) {
			t.Fatal("lists of one answer share", at, first)
		}
	}
	if !alike(second, want) || !alike(script.All(was, c), want) || !bytes.Equal(was, []byte{7, 255, 1, 2, 24, 0, 13, 0x23, 7, 255, 1, 2, 25, 0, 13, 0x23, 26, 0, 14, 0x33}) {
		t.Fatal("answers share", second)
	}
	long := append(first[:2], api.Step{Kind: 9}) // in the caller's own list
	if long[2].Kind != 9 || !alike(second, want) {
		t.Fatal("lists of steps share")
	}
	p, q := script.Op(3, 13, 0x40, c), script.Op(3, 13, 0x40, c)
	p.Data = append(p.Data[:1], 1, 2, 3, 4, 5)
	if p.Data[0] = 9; !bytes.Equal(q.Data, word(13, 4)) || !bytes.Equal(script.Op(3, 13, 0x40, c).Data, word(13, 4)) {
		t.Fatal("calls share", q)
	}
}

// Rule 2: pieces of one list may be handed in: each is told by itself, and the list stays.
func TestSharedIsTaken(t *testing.T) {
	b := make([]byte, 64)
	rand.New(rand.NewSource(154)).Read(b)
	was := bytes.Clone(b)
	for from := range b {
		for to := from; to <= len(b); to++ {
			if !alike(script.All(b[from:to], confs[1]), plain(was[from:to], confs[1])) {
				t.Fatal(from, to)
			}
		}
	}
	if !bytes.Equal(b, was) {
		t.Fatal("changed what was handed in")
	}
}

// Rule 3: the same bytes are the same steps again, whatever was asked between.
func TestAgain(t *testing.T) {
	b := make([]byte, 4000)
	rand.New(rand.NewSource(155)).Read(b)
	for _, c := range confs {
		first := script.All(b, c)
		for _, d := range confs {
			script.All(b[3:], d)
			script.Op(b[0], b[1], b[2], d)
		}
		script.All(b, api.Conf{})
		if !alike(script.All(b, c), first) {
			t.Fatal("other steps", c)
		}
	}
}

// Rule 3: calls made at once tell the same.
func TestAtOnce(t *testing.T) {
	b := make([]byte, 4000)
	rand.New(rand.NewSource(156)).Read(b)
	told := make(chan bool)
	for _, c := range confs {
		go func() { told <- alike(script.All(b, c), plain(b, c)) }()
	}
	for range confs {
		if !<-told {
			t.Error("other steps")
		}
	}
}

// 15.1: a long script is as its pieces are.
func TestLong(t *testing.T) {
	b := make([]byte, 1<<22+3)
	rand.New(rand.NewSource(157)).Read(b)
	c := confs[1]
	l := script.All(b, c)
	if len(l) != 1<<20 {
		t.Fatal(len(l))
	}
	for at, s := range l {
		if !alikeStep(s, plainStep(b[4*at], b[4*at+1], b[4*at+2], b[4*at+3], c)) {
			t.Fatal(at, s)
		}
	}
}
