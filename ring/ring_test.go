package ring_test

import (
	"math"
	"math/rand"
	"slices"
	"testing"

	"lavabo/api"
	"lavabo/list"
	"lavabo/ring"
)

// noFrames are numbers of no frame: next to the edges, and where a narrower kind of number would wrap round.
var noFrames = []int{-1, -2, -8, -31, -32, -33, -64, -256, 32, 33, 40, 63, 64, 255, 256, 257, 1024, 1 << 16, 1<<32 - 1, 1 << 32, 1<<32 + 1, -1 << 32, -1<<32 + 1, math.MaxInt32, math.MinInt32, math.MaxInt - 1, math.MaxInt, math.MinInt, math.MinInt + 1}

// Short words for the steps: each makes one, and holds what it answers, and how many wait then, against want.
func touch(t *testing.T, r *ring.Ring, f, wait int, want ...int) {
	t.Helper()
	if got := r.Touch(f); !slices.Equal(got, want) {
		t.Fatalf("Touch(%d) = %v, want %v", f, got, want)
	}
	length(t, r, wait)
}

func drain(t *testing.T, r *ring.Ring, want ...int) {
	t.Helper()
	if got := r.Drain(); !slices.Equal(got, want) {
		t.Fatalf("Drain() = %v, want %v", got, want)
	}
	length(t, r, 0)
}

func forget(t *testing.T, r *ring.Ring, f, wait, want int) {
	t.Helper()
	if got := r.Forget(f); got != want {
		t.Fatalf("Forget(%d) = %d, want %d", f, got, want)
	}
	length(t, r, wait)
}

func length(t *testing.T, r *ring.Ring, want int) {
	t.Helper()
	if got := r.Len(); got != want {
		t.Fatalf("Len() = %d, want %d", got, want)
	}
}

// with is a ring in which these touches wait (fewer than Kept).
func with(t *testing.T, touches ...int) *ring.Ring {
	t.Helper()
	r := ring.New()
	for i, f := range touches {
		touch(t, r, f, i+1)
	}
	return r
}

// some are the first n of touches that are all unlike, both edges among them.
func some(n int) []int { return []int{31, 0, 17, 5, 30, 1, 16, 8}[:n] }

// 8.1: no touch waits in a new ring.
func TestNew(t *testing.T) {
	r := ring.New()
	if r == nil {
		t.Fatal("New() is none")
	}
	length(t, r, 0)
	drain(t, r)
	for f := range api.MaxFrames {
		forget(t, r, f, 0, 0)
	}
	drain(t, r)
}

// 8.1: the document's example, and the touch behind it.
func TestExample(t *testing.T) {
	r := ring.New()
	for i := range 7 {
		touch(t, r, i, i+1)
	}
	touch(t, r, 7, 0, 0, 1, 2, 3, 4, 5, 6, 7)
	touch(t, r, 8, 1)
	drain(t, r, 8)
}

// 8.1: every frame waits at every place, and is told there.
func TestEveryFrame(t *testing.T) {
	for f := range api.MaxFrames {
		for at := range api.Kept {
			all := slices.Repeat([]int{(f + 1) % api.MaxFrames}, api.Kept)
			all[at] = f
			r := with(t, all[:7]...)
			touch(t, r, all[7], 0, all...)
			if at < 7 {
				drain(t, with(t, all[:7]...), all[:7]...)
			}
		}
	}
}

// 8.1: a number of no frame does not wait, and has nobody told, however many wait.
func TestNoFrames(t *testing.T) {
	for n := range api.Kept {
		for _, f := range noFrames {
			r := with(t, some(n)...)
			touch(t, r, f, n)
			touch(t, r, f, n)
			drain(t, r, some(n)...)
			touch(t, r, f, 0)
			drain(t, r)
		}
	}
}

// 8.1: a frame that is touched again waits again.
func TestTheSameAgain(t *testing.T) {
	for _, f := range []int{0, 1, 15, 31} {
		all := slices.Repeat([]int{f}, 8)
		r := with(t, all[:7]...)
		touch(t, r, f, 0, all...)
		r = with(t, all[:5]...)
		drain(t, r, all[:5]...)
		r = with(t, f, 7, f, f, 7)
		drain(t, r, f, 7, f, f, 7)
	}
}

// 8.1: at Kept all are told, no sooner and no later, time after time.
func TestTimeAfterTime(t *testing.T) {
	r := ring.New()
	var all []int
	for i := range 1000 {
		f := i * 37 % api.MaxFrames
		all = append(all, f)
		if len(all) < 8 {
			touch(t, r, f, len(all))
			continue
		}
		touch(t, r, f, 0, all...)
		all = nil
	}
}

// 8.1: Drain tells all, however many wait, once; behind it Kept more are kept.
func TestDrain(t *testing.T) {
	for n := range api.Kept {
		r := with(t, some(n)...)
		drain(t, r, some(n)...)
		drain(t, r)
		for i, f := range some(7) {
			touch(t, r, f, i+1)
		}
		touch(t, r, 8, 0, some(8)...)
		drain(t, r)
	}
}

// 8.1: of all ways in which touches of one frame may stand among others, those go, and the others stand as they stood.
func TestForget(t *testing.T) {
	for _, f := range []int{0, 9, 31} {
		for n := range api.Kept {
			for which := range 1 << n {
				forgets(t, f, n, which)
			}
		}
	}
}

// forgets has f touched at those of n places that which tells, forgets it, and fills the ring.
func forgets(t *testing.T, f, n, which int) {
	t.Helper()
	var all, rest []int
	for i := range n {
		other := i + 1
		if which>>i&1 == 1 {
			other = f
		} else {
			rest = append(rest, other)
		}
		all = append(all, other)
	}
	r := with(t, all...)
	forget(t, r, f, len(rest), n-len(rest))
	forget(t, r, f, len(rest), 0)
	for len(rest) < 7 {
		rest = append(rest, 20+len(rest))
		touch(t, r, rest[len(rest)-1], len(rest))
	}
	rest = append(rest, f)
	touch(t, r, f, 0, rest...)
}

// 8.1: of a frame that nobody touched, and of no frame, none are gone, and all wait as they did.
func TestForgetNobody(t *testing.T) {
	for n := range api.Kept {
		for f := -3; f < api.MaxFrames+3; f++ {
			if slices.Contains(some(n), f) {
				continue
			}
			r := with(t, some(n)...)
			forget(t, r, f, n, 0)
			drain(t, r, some(n)...)
		}
		for _, f := range noFrames {
			r := with(t, some(n)...)
			touch(t, r, f, n)
			forget(t, r, f, n, 0)
			drain(t, r, some(n)...)
		}
	}
}

// 8.1: what was told, or drained, is forgotten no more.
func TestForgetWhatWasTold(t *testing.T) {
	r := with(t, 4, 4, 4, 4, 4, 4, 4)
	touch(t, r, 4, 0, 4, 4, 4, 4, 4, 4, 4, 4)
	forget(t, r, 4, 0, 0)
	touch(t, r, 4, 1)
	forget(t, r, 4, 0, 1)
	touch(t, r, 4, 1)
	drain(t, r, 4)
	forget(t, r, 4, 0, 0)
	drain(t, r)
}

// plain is a ring told anew from 8.1's words.
type plain struct{ wait []int }

// both makes a step on a ring and on the plain one; kinds from 2 on touch.
func both(t *testing.T, r *ring.Ring, p *plain, kind, f int) {
	t.Helper()
	switch {
	case kind == 0:
		all := p.wait
		p.wait = nil
		drain(t, r, all...)
	case kind == 1:
		var rest []int
		for _, g := range p.wait {
			if g != f {
				rest = append(rest, g)
			}
		}
		gone := len(p.wait) - len(rest)
		p.wait = rest
		forget(t, r, f, len(rest), gone)
	case f < 0 || f > 31:
		touch(t, r, f, len(p.wait))
	case len(p.wait) == 7:
		all := append(slices.Clone(p.wait), f)
		p.wait = nil
		touch(t, r, f, 0, all...)
	default:
		p.wait = append(p.wait, f)
		touch(t, r, f, len(p.wait))
	}
}

// 8.1: all runs of four steps on rings of every length.
func TestAllRuns(t *testing.T) {
	steps := [][2]int{{0, 0}, {1, 0}, {1, 31}, {1, 32}, {2, 0}, {2, 31}, {2, 5}, {2, -1}, {2, 32}}
	runs := len(steps) * len(steps) * len(steps) * len(steps)
	for n := range api.Kept {
		for run := range runs {
			r, p := with(t, some(n)...), &plain{slices.Clone(some(n))}
			for range 4 {
				s := steps[run%len(steps)]
				both(t, r, p, s[0], s[1])
				run /= len(steps)
			}
			drain(t, r, p.wait...)
		}
	}
}

// 8.1: long lives of rings, by chance, beside the plain one: many frames and few, drained often and seldom.
func TestLives(t *testing.T) {
	c := rand.New(rand.NewSource(8))
	for life := range 200 {
		r, p := ring.New(), &plain{}
		frames, kinds := 1+c.Intn(34), 3+c.Intn(20)
		for range 400 {
			f := c.Intn(frames)
			if life%3 == 0 {
				f -= 1
			}
			both(t, r, p, c.Intn(kinds), f)
		}
		drain(t, r, p.wait...)
	}
}

// 8.1: of nil: nothing, 0.
func TestNoRing(t *testing.T) {
	var r *ring.Ring
	for range 2 {
		for f := range api.MaxFrames {
			touch(t, r, f, 0)
			forget(t, r, f, 0, 0)
		}
		for _, f := range noFrames {
			touch(t, r, f, 0)
			forget(t, r, f, 0, 0)
		}
		drain(t, r)
	}
}

// 8.1: a ring made without New is one in which none waits, whatever is asked of it first.
func TestRingWithoutNew(t *testing.T) {
	for first := range 4 {
		var r ring.Ring
		switch first {
		case 0:
			drain(t, &r)
		case 1:
			forget(t, &r, 0, 0, 0)
		case 2:
			touch(t, &r, -1, 0)
		}
		length(t, &r, 0)
		for i, f := range some(7) {
			touch(t, &r, f, i+1)
		}
		touch(t, &r, 8, 0, some(8)...)
	}
}

// Rule 2: what a ring tells is the caller's own.
func TestToldIsTheCallers(t *testing.T) {
	r := ring.New()
	told := func(f int) []int {
		for range 7 {
			r.Touch(f)
		}
		return r.Touch(f)
	}
	one, two := told(1), told(2)
	clear(one)
	_ = append(one[:0:cap(one)], 9, 9, 9)
	r.Touch(3)
	r.Touch(4)
	three := r.Drain()
	r.Touch(5)
	r.Touch(6)
	clear(three)
	drain(t, r, 5, 6)
	if !slices.Equal(two, slices.Repeat([]int{2}, 8)) || !slices.Equal(three, []int{0, 0}) {
		t.Fatal("an answer is not the caller's own", two, three)
	}
}

// Rule 3: a ring hangs on the calls ahead on it alone.
func TestRingsAreApart(t *testing.T) {
	q, r := ring.New(), ring.New()
	for i := range 7 {
		touch(t, q, 1, i+1)
		length(t, r, i)
		touch(t, r, 2, i+1)
	}
	forget(t, r, 1, 7, 0)
	touch(t, q, 1, 0, 1, 1, 1, 1, 1, 1, 1, 1)
	drain(t, r, 2, 2, 2, 2, 2, 2, 2)
}

// listed is a list of numbers 0 to n - 1 in which these stand.
func listed(t *testing.T, n int, in ...int) *list.List {
	t.Helper()
	l := list.New(n)
	for _, k := range in {
		if !l.Back(k) {
			t.Fatalf("%v can't stand in a list of %d", in, n)
		}
	}
	return l
}

// applied holds l, when the touches are applied, against want; the touches stay as they are.
func applied(t *testing.T, l *list.List, touches []int, want ...int) {
	t.Helper()
	before := slices.Clone(touches)
	ring.Apply(l, touches)
	if !slices.Equal(touches, before) {
		t.Fatalf("%v became %v", before, touches)
	}
	if got := l.All(); !slices.Equal(got, want) || l.Len() != len(want) {
		t.Fatalf("Apply(%v): %v, want %v", touches, got, want)
	}
}

// forward is the order when each touch that is in goes to the front: 8.2's words, the long way.
func forward(order []int, touches ...int) []int {
	for _, k := range touches {
		if at := slices.Index(order, k); at >= 0 {
			order = slices.Concat([]int{k}, order[:at], order[at+1:])
		}
	}
	return order
}

// 8.2: each place of a list goes to its front, the others stay in their order.
func TestApplyOne(t *testing.T) {
	for n := 1; n <= 8; n++ {
		all := some(n)
		for at, k := range all {
			want := slices.Concat([]int{k}, all[:at], all[at+1:])
			applied(t, listed(t, 32, all...), []int{k}, want...)
			applied(t, listed(t, 32, all...), []int{k, k, k}, want...)
		}
	}
}

// 8.2: one by one: the last touch stands at the front, the first behind it.
func TestApplyInTurn(t *testing.T) {
	applied(t, listed(t, 5, 0, 1, 2, 3, 4), []int{2, 4, 3}, 3, 4, 2, 0, 1)
	applied(t, listed(t, 5, 0, 1, 2, 3, 4), []int{0, 1, 2, 3, 4}, 4, 3, 2, 1, 0)
	applied(t, listed(t, 5, 0, 1, 2, 3, 4), []int{4, 3, 2, 1, 0}, 0, 1, 2, 3, 4)
	applied(t, listed(t, 5, 0, 1, 2, 3, 4), []int{4, 1, 4}, 4, 1, 0, 2, 3)
	applied(t, listed(t, 5, 0, 1, 2, 3, 4), []int{4, 1, 4, 1, 1}, 1, 4, 0, 2, 3)
}

// 8.2: what is not in does not go in, be there such a number or not.
func TestApplyOfNone(t *testing.T) {
	for _, k := range append([]int{0, 2, 4, 6}, noFrames...) {
		applied(t, listed(t, 7, 5, 1, 3), []int{k}, 5, 1, 3)
		applied(t, listed(t, 7, 5, 1, 3), []int{k, 3, k}, 3, 5, 1)
		applied(t, listed(t, 7), []int{k, k})
		applied(t, listed(t, 0), []int{k, 0})
	}
}

// 8.2: a list may have numbers that no frame has: they, too, go to the front.
func TestApplyBeyondFrames(t *testing.T) {
	applied(t, listed(t, 1024, 31, 32, 33, 1023, 500), []int{1023, 32, 1024}, 32, 1023, 31, 33, 500)
}

// 8.2: of no list, and of no touches: nothing.
func TestApplyNothing(t *testing.T) {
	applied(t, nil, []int{1, 0, 31, -1, 32})
	applied(t, nil, nil)
	applied(t, &list.List{}, []int{0, 1})
	applied(t, listed(t, 4, 3, 1), nil, 3, 1)
	applied(t, listed(t, 4, 3, 1), []int{}, 3, 1)
	applied(t, listed(t, 4, 3, 1), []int{1, 3}[:0], 3, 1)
}

// 8.2: more touches than a ring ever tells at once.
func TestApplyMany(t *testing.T) {
	var touches []int
	for i := range 100_000 {
		touches = append(touches, i*7%40-4)
	}
	order := []int{3, 1, 4, 15, 9, 2, 6, 31}
	applied(t, listed(t, 32, order...), touches, forward(order, touches...)...)
}

// 8.2: all touches of up to four on all orders of up to three of the numbers 0 to 3.
func TestApplyAll(t *testing.T) {
	for order := range 5 * 5 * 5 {
		var in []int
		for ; order > 0; order /= 5 {
			if k := order % 5; k < 4 && !slices.Contains(in, k) {
				in = append(in, k)
			}
		}
		for which := range 6 * 6 * 6 * 6 {
			var touches []int
			for ; which > 0; which /= 6 {
				touches = append(touches, which%6-1)
			}
			applied(t, listed(t, 4, in...), touches, forward(in, touches...)...)
		}
	}
}

// Rule 2: the touches that are handed in are not changed, nor what stands behind them.
func TestApplyLeavesTouches(t *testing.T) {
	whole := []int{1, 2, 0, 77, 78, 79}
	applied(t, listed(t, 3, 0, 1, 2), whole[:3], 0, 2, 1)
	if !slices.Equal(whole, []int{1, 2, 0, 77, 78, 79}) {
		t.Fatal(whole)
	}
}

// 8.3: the order stands still while touches wait, and is right when they are told and applied: as if each had been put right at once.
func TestNowAndThen(t *testing.T) {
	c := rand.New(rand.NewSource(83))
	for range 300 {
		n := 1 + c.Intn(32)
		in := c.Perm(32)[:n]
		r, l := ring.New(), listed(t, 32, in...)
		stood, right := in, in
		for range 100 {
			told := r.Drain
			if c.Intn(20) > 0 {
				f := c.Intn(32)
				right = forward(right, f)
				told = func() []int { return r.Touch(f) }
			}
			touches := told()
			if r.Len() == 0 {
				stood = right
			}
			applied(t, l, touches, stood...)
		}
		applied(t, l, r.Drain(), right...)
	}
}

// 8.3: what is forgotten puts no order right.
func TestForgottenTouchesNobody(t *testing.T) {
	r, l := with(t, 2, 3, 2, 1), listed(t, 5, 0, 1, 2, 3, 4)
	forget(t, r, 2, 2, 2)
	applied(t, l, r.Drain(), 1, 3, 0, 2, 4)
	applied(t, l, r.Drain(), 1, 3, 0, 2, 4)
}
