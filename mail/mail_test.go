package mail_test

import (
	"math"
	"math/rand"
	"slices"
	"testing"

	"lavabo/api"
	"lavabo/mail"
)

// nobodies are numbers of no asker: next to the edges, and where a narrower kind of number would wrap round.
var nobodies = []int{-1, -2, -8, -63, -64, -65, -256, 64, 65, 100, 127, 128, 255, 256, 257, 1024, 1 << 16, 1<<32 - 1, 1 << 32, 1<<32 + 1, -1 << 32, -1<<32 + 1, math.MaxInt32, math.MinInt32, math.MaxInt - 1, math.MaxInt, math.MinInt, math.MinInt + 1}

// whats are words of the whole range.
var whats = []int{0, 1, -1, 2, 8, 63, 64, -64, 255, 256, 1 << 16, -1 << 31, 1<<31 - 1, 1 << 31, 1 << 32, 1<<32 + 1, math.MaxInt, math.MinInt}

// Short words for the steps: each makes one, and holds what it answers against want; those that may change how many wait hold that, too.
func post(t *testing.T, b *mail.Box, from, what, wait, want int) {
	t.Helper()
	if got := b.Post(from, what); got != want {
		t.Fatalf("Post(%d, %d) = %d, want %d", from, what, got, want)
	}
	length(t, b, wait)
}

func take(t *testing.T, b *mail.Box, most, wait int, want ...[2]int) {
	t.Helper()
	if got := b.Take(most); !slices.Equal(got, want) {
		t.Fatalf("Take(%d) = %v, want %v", most, got, want)
	}
	length(t, b, wait)
}

func answer(t *testing.T, b *mail.Box, to, what, want int) {
	t.Helper()
	wait := b.Len()
	if got := b.Answer(to, what); got != want {
		t.Fatalf("Answer(%d, %d) = %d, want %d", to, what, got, want)
	}
	length(t, b, wait)
}

func hear(t *testing.T, b *mail.Box, me, want int, is bool) {
	t.Helper()
	wait := b.Len()
	if got, ok := b.Hear(me); got != want || ok != is {
		t.Fatalf("Hear(%d) = %d, %v, want %d, %v", me, got, ok, want, is)
	}
	length(t, b, wait)
}

func length(t *testing.T, b *mail.Box, want int) {
	t.Helper()
	if got := b.Len(); got != want {
		t.Fatalf("Len() = %d, want %d", got, want)
	}
}

// words are n words that are all unlike, of askers 0, 9, 18 .. 63.
func words(n int) [][2]int {
	var all [][2]int
	for i := range n {
		all = append(all, [2]int{i * 9, 100 + i})
	}
	return all
}

// with is a box in which these words wait.
func with(t *testing.T, all ...[2]int) *mail.Box {
	t.Helper()
	b := mail.New()
	for i, w := range all {
		post(t, b, w[0], w[1], i+1, api.OK)
	}
	return b
}

// opened is a box in which the words of these askers are open, and none waits.
func opened(t *testing.T, askers ...int) *mail.Box {
	t.Helper()
	b := mail.New()
	for _, from := range askers {
		post(t, b, from, -from, 1, api.OK)
		take(t, b, 1, 0, [2]int{from, -from})
	}
	return b
}

// everybody are the askers, rising.
func everybody() []int {
	var all []int
	for from := range 64 {
		all = append(all, from)
	}
	return all
}

// 9.1: in a new box there is no word, open or not, and no answer.
func TestNew(t *testing.T) {
	b := mail.New()
	if b == nil {
		t.Fatal("New() is none")
	}
	length(t, b, 0)
	take(t, b, 8, 0)
	for _, me := range everybody() {
		hear(t, b, me, 0, false)
		answer(t, b, me, 7, api.ErrNone)
		hear(t, b, me, 0, false)
	}
	take(t, b, 8, 0)
}

// 9.1: the document's example: Hear of nothing.
func TestExample(t *testing.T) {
	hear(t, mail.New(), 0, 0, false)
	hear(t, mail.New(), 63, 0, false)
}

// 9.1: the whole way of a word of each asker, twice, with all that is refused on it.
func TestEveryAsker(t *testing.T) {
	for _, from := range everybody() {
		b := mail.New()
		for round := range 2 {
			post(t, b, from, 10+round, 1, api.OK)
			post(t, b, from, 20, 1, api.ErrHeld)
			answer(t, b, from, 30, api.ErrNone)
			hear(t, b, from, 0, false)
			take(t, b, 1, 0, [2]int{from, 10 + round})
			post(t, b, from, 20, 0, api.ErrHeld)
			hear(t, b, from, 0, false)
			take(t, b, 1, 0)
			answer(t, b, from, 40+round, api.OK)
			answer(t, b, from, 50, api.ErrNone)
			post(t, b, from, 20, 0, api.ErrHeld)
			take(t, b, 1, 0)
			hear(t, b, from, 40+round, true)
			hear(t, b, from, 0, false)
			answer(t, b, from, 50, api.ErrNone)
		}
	}
}

// 9.1: a word and an answer may be any number, as those of codes, of nothing, of askers.
func TestWholeRange(t *testing.T) {
	for _, what := range whats {
		for _, back := range whats {
			b := with(t, [2]int{5, what})
			take(t, b, 8, 0, [2]int{5, what})
			answer(t, b, 5, back, api.OK)
			hear(t, b, 5, back, true)
		}
	}
}

// 9.1: a number of no asker is refused, however many wait (with ErrArg even where there is no room), and nothing changes.
func TestNobodies(t *testing.T) {
	for n := range api.Slots + 1 {
		for _, who := range nobodies {
			b := with(t, words(n)...)
			post(t, b, who, 1, n, api.ErrArg)
			answer(t, b, who, 1, api.ErrNone)
			hear(t, b, who, 0, false)
			take(t, b, 8, 0, words(n)...)
			answer(t, b, who, 1, api.ErrNone)
			hear(t, b, who, 0, false)
			for _, w := range words(n) {
				answer(t, b, w[0], w[1], api.OK)
			}
			hear(t, b, who, 0, false)
			for _, w := range words(n) {
				hear(t, b, w[0], w[1], true)
			}
		}
	}
}

// 9.1: the ninth word is refused, whose it be, and is not kept; no sooner one.
func TestFull(t *testing.T) {
	for _, from := range everybody() {
		b := with(t, words(8)...)
		if from%9 == 0 {
			post(t, b, from, 1, 8, api.ErrHeld)
			continue
		}
		post(t, b, from, 1, 8, api.ErrFull)
		post(t, b, from, 2, 8, api.ErrFull)
		hear(t, b, from, 0, false)
		answer(t, b, from, 3, api.ErrNone)
		take(t, b, 0, 8)
		post(t, b, from, 4, 8, api.ErrFull)
		take(t, b, 1, 7, words(8)[0])
		answer(t, b, from, 3, api.ErrNone)
		post(t, b, from, 5, 8, api.OK)
		want := append(words(8)[1:], [2]int{from, 5})
		take(t, b, 9, 0, want...)
	}
}

// 9.1: an asker whose word waits, is open, or has its answer is told so, full box or not.
func TestHeldAheadOfFull(t *testing.T) {
	b := opened(t, 1, 2)
	answer(t, b, 2, 22, api.OK)
	for i, w := range words(8) {
		post(t, b, 1, 0, i, api.ErrHeld)
		post(t, b, 2, 0, i, api.ErrHeld)
		post(t, b, w[0], w[1], i+1, api.OK)
		post(t, b, w[0], 0, i+1, api.ErrHeld)
	}
	post(t, b, 1, 0, 8, api.ErrHeld)
	post(t, b, 2, 0, 8, api.ErrHeld)
	post(t, b, 3, 0, 8, api.ErrFull)
	hear(t, b, 2, 22, true)
	post(t, b, 2, 0, 8, api.ErrFull)
	answer(t, b, 1, 11, api.OK)
	post(t, b, 1, 0, 8, api.ErrHeld)
	hear(t, b, 1, 11, true)
	post(t, b, 1, 0, 8, api.ErrFull)
	take(t, b, 8, 0, words(8)...)
}

// 9.1: only words that wait fill a box: neither open ones nor answers.
func TestOpenFillsNothing(t *testing.T) {
	b := opened(t, everybody()[:48]...)
	for _, from := range everybody()[:24] {
		answer(t, b, from, from, api.OK)
	}
	for i, from := range everybody()[48:56] {
		post(t, b, from, 1, i+1, api.OK)
	}
	post(t, b, 56, 1, 8, api.ErrFull)
}

// 9.1: Take tells the first ones, at most most; they are open, the others wait on in their order.
func TestTake(t *testing.T) {
	for n := range api.Slots + 1 {
		for _, most := range []int{math.MinInt, -1 << 32, -9, -1, 0, 1, 2, 3, 4, 5, 6, 7, 8, 9, 64, 1 << 32, math.MaxInt} {
			b, all := with(t, words(n)...), words(n)
			first := min(max(most, 0), n)
			take(t, b, most, n-first, all[:first]...)
			for i, w := range all {
				want := api.ErrNone
				if i < first {
					want = api.OK
				}
				answer(t, b, w[0], i, want)
			}
			take(t, b, 8, 0, all[first:]...)
			take(t, b, 8, 0)
		}
	}
}

// 9.1: the first one that was posted is taken first, time after time, with any number waiting.
func TestInTurn(t *testing.T) {
	for keep := range api.Slots {
		b := mail.New()
		var wait [][2]int
		for i := range 500 {
			w := [2]int{i * 37 % 64, i}
			wait = append(wait, w)
			post(t, b, w[0], w[1], len(wait), api.OK)
			if len(wait) <= keep {
				continue
			}
			first := wait[0]
			wait = wait[1:]
			take(t, b, 1, keep, first)
			answer(t, b, first[0], -i, api.OK)
			hear(t, b, first[0], -i, true)
		}
		take(t, b, 8, 0, wait...)
	}
}

// 9.1: all may be open at once, all answered at once, in any order; each hears its own.
func TestAllAtOnce(t *testing.T) {
	c := rand.New(rand.NewSource(9))
	for range 50 {
		b := opened(t, everybody()...)
		for _, to := range c.Perm(64) {
			post(t, b, to, 1, 0, api.ErrHeld)
			answer(t, b, to, to*to, api.OK)
		}
		for _, me := range c.Perm(64) {
			post(t, b, me, 1, 0, api.ErrHeld)
			hear(t, b, me, me*me, true)
			post(t, b, me, -me, 1, api.OK)
			take(t, b, 1, 0, [2]int{me, -me})
		}
	}
}

// 9.1: where an answer of everybody waits, each hears its own first, wherever it stands, and then all others do.
func TestEachHearsFirst(t *testing.T) {
	for first := range 64 {
		b := opened(t, everybody()...)
		for _, to := range everybody() {
			answer(t, b, to, 500-to, api.OK)
		}
		for i := range 64 {
			me := (first + i) % 64
			hear(t, b, me, 500-me, true)
			hear(t, b, me, 0, false)
		}
	}
}

// 9.1: who hears takes its own answer alone: the others', in whatever order all hear, wait on.
func TestOthersAnswersWait(t *testing.T) {
	askers := []int{63, 0, 31, 7}
	for order := range 4 * 4 * 4 * 4 {
		b, heard := opened(t, askers...), map[int]bool{}
		for _, to := range askers {
			answer(t, b, to, 1000+to, api.OK)
		}
		hear(t, b, 5, 0, false)
		for range 4 {
			me := askers[order%4]
			order /= 4
			want := 1000 + me
			if heard[me] {
				want = 0
			}
			hear(t, b, me, want, !heard[me])
			heard[me] = true
		}
	}
}

// 9.1: the answer of one asker is not told to another, nor its word answered for another.
func TestNotAnothers(t *testing.T) {
	for _, from := range everybody() {
		b := opened(t, from)
		for _, other := range everybody() {
			if other != from {
				answer(t, b, other, 1, api.ErrNone)
				hear(t, b, other, 0, false)
			}
		}
		answer(t, b, from, 2, api.OK)
		for _, other := range everybody() {
			if other != from {
				answer(t, b, other, 1, api.ErrNone)
				hear(t, b, other, 0, false)
			}
		}
		hear(t, b, from, 2, true)
	}
}

// How a word stands with the plain box.
const (
	none = iota
	waiting
	taken
	answered
)

// plain is a box told anew from 9.1's words.
type plain struct {
	wait   [][2]int
	stands map[int]int
	back   map[int]int
}

func (p *plain) post(from, what int) int {
	if from < 0 || from > 63 {
		return api.ErrArg
	}
	if p.stands[from] != none {
		return api.ErrHeld
	}
	if len(p.wait) == 8 {
		return api.ErrFull
	}
	p.wait = append(p.wait, [2]int{from, what})
	p.stands[from] = waiting
	return api.OK
}

func (p *plain) take(most int) [][2]int {
	n := min(max(most, 0), len(p.wait))
	first := p.wait[:n]
	p.wait = p.wait[n:]
	for _, w := range first {
		p.stands[w[0]] = taken
	}
	return first
}

func (p *plain) answer(to, what int) int {
	if p.stands[to] != taken {
		return api.ErrNone
	}
	p.stands[to] = answered
	p.back[to] = what
	return api.OK
}

func (p *plain) hear(me int) (int, bool) {
	if p.stands[me] != answered {
		return 0, false
	}
	p.stands[me] = none
	return p.back[me], true
}

// both makes a step on a box and on the plain one.
func both(t *testing.T, b *mail.Box, p *plain, kind, who, what int) {
	t.Helper()
	switch kind {
	case 0:
		want := p.post(who, what)
		post(t, b, who, what, len(p.wait), want)
	case 1:
		want := p.take(who)
		take(t, b, who, len(p.wait), want...)
	case 2:
		answer(t, b, who, what, p.answer(who, what))
	default:
		want, is := p.hear(who)
		hear(t, b, who, want, is)
	}
}

// 9.1: all runs of five steps of two askers, on boxes in which others' words wait, up to a full one.
func TestAllRuns(t *testing.T) {
	steps := [][2]int{{0, 1}, {0, 62}, {0, 64}, {1, 1}, {1, 8}, {2, 1}, {2, 62}, {3, 1}, {3, 62}}
	runs := 9 * 9 * 9 * 9 * 9
	for _, n := range []int{0, 6, 7, 8} {
		for run := range runs {
			b, p := with(t, words(n)...), &plain{words(n), map[int]int{}, map[int]int{}}
			for what := range 5 {
				s := steps[run%9]
				both(t, b, p, s[0], s[1], what+1)
				run /= 9
			}
			take(t, b, 8, 0, p.wait...)
		}
	}
}

// 9.1: long lives of boxes, by chance, beside the plain one: of many askers and few, of much that is asked and much that is answered.
func TestLives(t *testing.T) {
	c := rand.New(rand.NewSource(91))
	for range 200 {
		b, p := mail.New(), &plain{nil, map[int]int{}, map[int]int{}}
		askers, from := 1+c.Intn(66), c.Intn(3)-1
		often := [4]int{1 + c.Intn(9), 1 + c.Intn(4), 1 + c.Intn(9), 1 + c.Intn(9)}
		for what := range 1000 {
			kind := 0
			for k := c.Intn(often[0] + often[1] + often[2] + often[3]); k >= often[kind]; kind++ {
				k -= often[kind]
			}
			who := from + c.Intn(askers)
			if kind == 1 {
				who = c.Intn(11) - 1
			}
			both(t, b, p, kind, who, what)
		}
		for who := range 64 {
			both(t, b, p, 3, who, 0)
		}
		both(t, b, p, 1, 8, 0)
	}
}

// 9.1: of nil: ErrState (ahead of ErrArg, and of ErrNone), nothing, 0, false.
func TestNoBox(t *testing.T) {
	var b *mail.Box
	for range 2 {
		for _, who := range append(everybody(), nobodies...) {
			post(t, b, who, 1, 0, api.ErrState)
			take(t, b, who, 0)
			answer(t, b, who, 1, api.ErrState)
			hear(t, b, who, 0, false)
		}
	}
}

// 9.1: a box made without New is one without words, whatever is asked of it first.
func TestBoxWithoutNew(t *testing.T) {
	for first := range 5 {
		var b mail.Box
		switch first {
		case 0:
			take(t, &b, 8, 0)
		case 1:
			hear(t, &b, 0, 0, false)
		case 2:
			answer(t, &b, 0, 1, api.ErrNone)
		case 3:
			post(t, &b, 64, 1, 0, api.ErrArg)
		}
		length(t, &b, 0)
		for i, w := range words(8) {
			post(t, &b, w[0], w[1], i+1, api.OK)
		}
		post(t, &b, 1, 1, 8, api.ErrFull)
		take(t, &b, 8, 0, words(8)...)
		answer(t, &b, 0, 5, api.OK)
		hear(t, &b, 0, 5, true)
	}
}

// Rule 2: what a box tells is the caller's own.
func TestToldIsTheCallers(t *testing.T) {
	b := with(t, words(8)...)
	one, two := b.Take(3), b.Take(3)
	clear(one)
	_ = append(one[:0:cap(one)], [2]int{9, 9}, [2]int{9, 9}, [2]int{9, 9}, [2]int{9, 9})
	if !slices.Equal(two, words(8)[3:6]) {
		t.Fatal("an answer is not the caller's own", two)
	}
	clear(two)
	take(t, b, 8, 0, words(8)[6:]...)
	for _, w := range words(8) {
		answer(t, b, w[0], w[1], api.OK)
	}
}

// Rule 3: a box hangs on the calls ahead on it alone.
func TestBoxesAreApart(t *testing.T) {
	a, b := mail.New(), mail.New()
	for i, w := range words(8) {
		post(t, a, w[0], w[1], i+1, api.OK)
		length(t, b, i)
		post(t, b, w[0], -w[1], i+1, api.OK)
	}
	take(t, a, 8, 0, words(8)...)
	answer(t, a, 9, 1, api.OK)
	answer(t, b, 9, 1, api.ErrNone)
	hear(t, b, 9, 0, false)
	take(t, b, 1, 7, [2]int{0, -100})
	answer(t, b, 0, 2, api.OK)
	hear(t, a, 0, 0, false)
	hear(t, a, 9, 1, true)
	hear(t, b, 0, 2, true)
}

// 9.2: one does what all asked for: each word is done once, in turn, and who asked hears what came of it, though the box has room for few at once.
func TestOneDoesForAll(t *testing.T) {
	for most := 1; most <= 9; most++ {
		b := mail.New()
		var asked, done [64]int
		sum, heard := 0, 0
		for rounds := 0; heard < 3*64; rounds++ {
			if rounds > 3*64 {
				t.Fatalf("taken by %d, only %d were heard", most, heard)
			}
			for _, me := range everybody() {
				if what, is := b.Hear(me); is {
					heard++
					if what != done[me] {
						t.Fatalf("%d hears %d, want %d", me, what, done[me])
					}
				}
				if asked[me] < 3 && b.Post(me, me+1) == api.OK {
					asked[me]++
				}
			}
			for _, w := range b.Take(most) {
				sum += w[1]
				done[w[0]] = sum
				answer(t, b, w[0], sum, api.OK)
			}
		}
		if want := 3 * 64 * 65 / 2; sum != want {
			t.Fatalf("taken by %d, %d was done, want %d", most, sum, want)
		}
	}
}

// 9.2: what came of a word waits for who asked, whatever is done for others meanwhile.
func TestAnswerWaits(t *testing.T) {
	b := opened(t, 33)
	answer(t, b, 33, 330, api.OK)
	for i := range 300 {
		from := i % 33
		post(t, b, from, i, 1, api.OK)
		take(t, b, 8, 0, [2]int{from, i})
		answer(t, b, from, -i, api.OK)
		hear(t, b, from, -i, true)
	}
	hear(t, b, 33, 330, true)
	hear(t, b, 33, 0, false)
}
