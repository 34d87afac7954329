package list_test

import (
	"math"
	"math/rand"
	"slices"
	"testing"
	"time"

	"lavabo/list"
)

// stands asks everything of a list of the numbers 0 to n - 1.
func stands(t *testing.T, l *list.List, n int, want ...int) {
	t.Helper()
	if all := l.All(); !slices.Equal(all, want) {
		t.Fatalf("All() = %v, want %v", all, want)
	}
	if l.Len() != len(want) {
		t.Fatalf("Len() = %d of %v", l.Len(), want)
	}
	first, last := -1, -1
	next := slices.Repeat([]int{-1}, n)
	in := make([]bool, n)
	for i, k := range want {
		if i == 0 {
			first = k
		} else {
			next[last] = k
		}
		last, in[k] = k, true
	}
	if l.First() != first || l.Last() != last {
		t.Fatalf("First() = %d, Last() = %d of %v", l.First(), l.Last(), want)
	}
	for k := range n {
		if l.Has(k) != in[k] || l.Next(k) != next[k] {
			t.Fatalf("Has(%d) = %v, Next(%d) = %d of %v", k, l.Has(k), k, l.Next(k), want)
		}
	}
}

// front, back and out make a step, and hold what it answers against want.
func front(t *testing.T, l *list.List, k int, want bool) {
	t.Helper()
	if l.Front(k) != want {
		t.Fatalf("Front(%d) is not %v", k, want)
	}
}

func back(t *testing.T, l *list.List, k int, want bool) {
	t.Helper()
	if l.Back(k) != want {
		t.Fatalf("Back(%d) is not %v", k, want)
	}
}

func out(t *testing.T, l *list.List, k int, want bool) {
	t.Helper()
	if l.Out(k) != want {
		t.Fatalf("Out(%d) is not %v", k, want)
	}
}

// filled has the numbers 0 to n - 1, rising.
func filled(t *testing.T, n int) *list.List {
	t.Helper()
	l := list.New(n)
	for k := range n {
		back(t, l, k, true)
	}
	return l
}

// refuses asks for numbers that a list of n has not: nothing is done, nothing is told.
func refuses(t *testing.T, l *list.List, n int) {
	t.Helper()
	for _, k := range []int{-1, -2, n, n + 1, 1025, math.MaxInt, math.MaxInt - 1, math.MinInt, math.MinInt + 1} {
		front(t, l, k, false)
		back(t, l, k, false)
		out(t, l, k, false)
		if l.Has(k) || l.Next(k) != -1 {
			t.Fatalf("there is a number %d", k)
		}
	}
}

// 4.1: New takes 0 to 1,024; the list is empty, and takes each of its numbers, and no other.
func TestNew(t *testing.T) {
	for _, n := range []int{-1, -2, -1024, 1025, 1026, 2048, math.MaxInt, math.MinInt} {
		if list.New(n) != nil {
			t.Errorf("New(%d) is a list", n)
		}
	}
	for n := range 1025 {
		l := list.New(n)
		if l == nil {
			t.Fatalf("New(%d) is none", n)
		}
		stands(t, l, n)
		refuses(t, l, n)
		if n > 0 {
			front(t, l, n-1, true)
			stands(t, l, n, n-1)
			back(t, l, 0, n > 1)
			out(t, l, n-1, true)
			out(t, l, 0, n > 1)
		}
		stands(t, l, n)
	}
}

// 4.1: the document's example.
func TestExample(t *testing.T) {
	l := list.New(3)
	front(t, l, 1, true)
	front(t, l, 2, true)
	stands(t, l, 3, 2, 1)
}

// 4.1: all numbers of a list, put in at either end.
func TestFill(t *testing.T) {
	for _, n := range []int{1, 2, 3, 63, 64, 65, 255, 256, 257, 1023, 1024} {
		rising := filled(t, n).All()
		for k := range n {
			if rising[k] != k {
				t.Fatalf("All() = %v", rising)
			}
		}
		stands(t, filled(t, n), n, rising...)
		falling := list.New(n)
		for k := range n {
			front(t, falling, k, true)
		}
		slices.Reverse(rising)
		stands(t, falling, n, rising...)
		refuses(t, falling, n)
		stands(t, falling, n, rising...)
	}
}

// 4.1: what is in goes in at neither end, and stays where it stands.
func TestInAlready(t *testing.T) {
	l := filled(t, 5)
	for k := range 5 {
		front(t, l, k, false)
		back(t, l, k, false)
		stands(t, l, 5, 0, 1, 2, 3, 4)
	}
}

// 4.1: what is out is taken out no more, be it never in, or in and out.
func TestOutAlready(t *testing.T) {
	l := list.New(4)
	out(t, l, 0, false)
	back(t, l, 1, true)
	back(t, l, 2, true)
	out(t, l, 0, false)
	out(t, l, 3, false)
	stands(t, l, 4, 1, 2)
	for _, k := range []int{1, 2} {
		out(t, l, k, true)
		out(t, l, k, false)
	}
	stands(t, l, 4)
}

// 4.1: out of every place of a list of every length to 6, and in again at either end.
func TestOutAndIn(t *testing.T) {
	for n := 1; n <= 6; n++ {
		for k := range n {
			rest := filled(t, n).All()
			rest = slices.Delete(rest, k, k+1)
			for turn := range 2 {
				l := filled(t, n)
				out(t, l, k, true)
				stands(t, l, n, rest...)
				if turn == 0 {
					front(t, l, k, true)
					stands(t, l, n, append([]int{k}, rest...)...)
				} else {
					back(t, l, k, true)
					stands(t, l, n, append(slices.Clone(rest), k)...)
				}
			}
		}
	}
}

// plain is a list told anew from 4.1's words, long ways round.
type plain struct {
	n  int
	in []int
}

func (p *plain) step(kind, k int) bool {
	at := slices.Index(p.in, k)
	switch {
	case k < 0 || k >= p.n || (kind == 2) != (at >= 0):
		return false
	case kind == 0:
		p.in = append([]int{k}, p.in...)
	case kind == 1:
		p.in = append(p.in, k)
	default:
		p.in = slices.Delete(slices.Clone(p.in), at, at+1)
	}
	return true
}

// both makes a step on a list and on the plain one.
func both(t *testing.T, l *list.List, p *plain, kind, k int) {
	t.Helper()
	[]func(*testing.T, *list.List, int, bool){front, back, out}[kind](t, l, k, p.step(kind, k))
}

// 4.1: all runs of five steps on lists of one number to three, numbers that are none among them.
func TestAllRuns(t *testing.T) {
	for n := range 4 {
		kinds := 3 * (n + 1)
		runs := 1
		for range 5 {
			runs *= kinds
		}
		for run := range runs {
			l, p := list.New(n), &plain{n: n}
			for range 5 {
				both(t, l, p, run%kinds%3, run%kinds/3)
				run /= kinds
			}
			stands(t, l, n, p.in...)
		}
	}
}

// 4.1: long lives of lists of many sizes, by chance, beside the plain one.
func TestLives(t *testing.T) {
	r := rand.New(rand.NewSource(4))
	for _, n := range []int{1, 2, 5, 32, 48, 200, 1024} {
		for range 8 {
			l, p := list.New(n), &plain{n: n}
			for range 3 * n {
				kind := r.Intn(3)
				both(t, l, p, kind, r.Intn(n+2)-1)
				if n < 50 || r.Intn(n) == 0 {
					stands(t, l, n, p.in...)
				}
			}
			stands(t, l, n, p.in...)
		}
	}
}

// 4.1: from First on, Next leads to Last, past each number once.
func TestNextLeadsThrough(t *testing.T) {
	l := list.New(100)
	for i := range 100 {
		k := i * 37 % 100
		if i%3 == 0 {
			front(t, l, k, true)
		} else {
			back(t, l, k, true)
		}
	}
	for k := 0; k < 100; k += 7 {
		out(t, l, k, true)
	}
	var way []int
	for k := l.First(); k != -1; k = l.Next(k) {
		way = append(way, k)
	}
	if !slices.Equal(way, l.All()) || len(way) != l.Len() || way[len(way)-1] != l.Last() {
		t.Fatal(way, l.All())
	}
}

// 4.1: of nil: false, -1, 0, nothing; a list made without New has no numbers.
func TestNoList(t *testing.T) {
	for _, l := range []*list.List{nil, {}} {
		refuses(t, l, 0)
		refuses(t, l, 5)
		for k := range 5 {
			front(t, l, k, false)
			back(t, l, k, false)
			out(t, l, k, false)
			if l.Has(k) || l.Next(k) != -1 {
				t.Fatalf("there is a number %d", k)
			}
		}
		stands(t, l, 0)
	}
}

// Rule 2: what All answers is the caller's own.
func TestAllIsTheCallers(t *testing.T) {
	l := filled(t, 8)
	one, two := l.All(), l.All()
	clear(one)
	_ = append(one[:3], 7, 7, 7)
	if !slices.Equal(two, []int{0, 1, 2, 3, 4, 5, 6, 7}) {
		t.Fatal("two answers share", two)
	}
	stands(t, l, 8, two...)
	out(t, l, 3, true)
	front(t, l, 3, true)
	if !slices.Equal(two, []int{0, 1, 2, 3, 4, 5, 6, 7}) {
		t.Fatal("an answer is changed by a step", two)
	}
}

// Rule 3: a list hangs on the calls ahead on it alone.
func TestListsAreApart(t *testing.T) {
	l, m := filled(t, 4), list.New(4)
	front(t, m, 2, true)
	out(t, l, 0, true)
	stands(t, l, 4, 1, 2, 3)
	stands(t, m, 4, 2)
}

// steps are 4.2's: each leaves a list of the numbers 0 to n - 2 as long as it was; n - 1 is out.
var steps = []struct {
	name string
	make func(l *list.List, n int)
}{
	{"Last to the front", func(l *list.List, n int) { k := l.Last(); l.Out(k); l.Front(k) }},
	{"First to the back", func(l *list.List, n int) { k := l.First(); l.Out(k); l.Back(k) }},
	{"the middle to the back", func(l *list.List, n int) { l.Out(n / 2); l.Back(n / 2) }},
	{"the middle to the front", func(l *list.List, n int) { l.Out(n / 2); l.Front(n / 2) }},
	{"in and out at the front", func(l *list.List, n int) { l.Front(n - 1); l.Out(n - 1) }},
	{"in and out at the back", func(l *list.List, n int) { l.Back(n - 1); l.Out(n - 1) }},
	{"Front of one that is in", func(l *list.List, n int) { l.Front(n - 2) }},
	{"Back of one that is in", func(l *list.List, n int) { l.Back(0) }},
	{"Out of one that is out", func(l *list.List, n int) { l.Out(n - 1) }},
	{"First", func(l *list.List, n int) { l.First() }},
	{"Last", func(l *list.List, n int) { l.Last() }},
	{"Next", func(l *list.List, n int) { l.Next(0); l.Next(n / 2); l.Next(n - 2); l.Next(n - 1) }},
	{"Has", func(l *list.List, n int) { l.Has(0); l.Has(n / 2); l.Has(n - 2); l.Has(n - 1) }},
	{"Len", func(l *list.List, n int) { l.Len() }},
}

// short is the time of a thousand steps, the least of many tries: what else runs here makes a try longer, never shorter.
func short(l *list.List, n int, step func(*list.List, int)) time.Duration {
	least := time.Hour
	for range 40 {
		from := time.Now()
		for range 1000 {
			step(l, n)
		}
		least = min(least, time.Since(from))
	}
	return least
}

// 4.2: a step makes no memory, and is not longer on a list of a thousand than on one of four (by far less than the thousandfold that going over the links takes).
func TestStepsAreShort(t *testing.T) {
	for _, s := range steps {
		little, great := filled(t, 4), filled(t, 1024)
		little.Out(3)
		great.Out(1023)
		if n := testing.AllocsPerRun(100, func() { s.make(great, 1024) }); n != 0 {
			t.Errorf("%s: makes memory %v times", s.name, n)
		}
		few, many := short(little, 4, s.make), short(great, 1024, s.make)
		if many > 20*few+20*time.Microsecond {
			t.Errorf("%s: %v of four numbers, %v of 1024", s.name, few, many)
		}
	}
}
