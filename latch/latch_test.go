package latch_test

import (
	"fmt"
	"math"
	"math/rand"
	"slices"
	"testing"

	"lavabo/api"
	"lavabo/latch"
)

// noTasks are numbers of no task; some of them are how a task stands among those who wait.
var noTasks = []int{-1, -2, -3, -64, -65, -66, 64, 65, 128, 1 << 32, 1<<32 + 1, math.MaxInt32, math.MaxInt, math.MaxInt - 1, math.MinInt32, math.MinInt, math.MinInt + 1}

// none is what nobody holds and nobody waits for.
var none = api.Latch{Writer: -1}

// list is a list written short.
func list(l ...int) []int { return l }

// same holds two latches against each other, apart from the program.
func same(a, b api.Latch) bool {
	return a.Writer == b.Writer && slices.Equal(a.Readers, b.Readers) && slices.Equal(a.Waits, b.Waits)
}

// copied is a latch that shares nothing with l.
func copied(l api.Latch) api.Latch {
	return api.Latch{Writer: l.Writer, Readers: append([]int(nil), l.Readers...), Waits: append([]int(nil), l.Waits...)}
}

// lock, share and free make a step on a latch, and hold what it answers against what is wanted: the latch that comes of it.
func lock(t *testing.T, l api.Latch, task int, is bool, want api.Latch) api.Latch {
	t.Helper()
	got, in := latch.Lock(l, task)
	if in != is || !same(got, want) {
		t.Fatalf("Lock(%v, %d) = %v, %v, want %v, %v", l, task, got, in, want, is)
	}
	return got
}

func share(t *testing.T, l api.Latch, task int, is bool, want api.Latch) api.Latch {
	t.Helper()
	got, in := latch.Share(l, task)
	if in != is || !same(got, want) {
		t.Fatalf("Share(%v, %d) = %v, %v, want %v, %v", l, task, got, in, want, is)
	}
	return got
}

func free(t *testing.T, l api.Latch, task, code int, let []int, want api.Latch) api.Latch {
	t.Helper()
	got, in, is := latch.Free(l, task)
	if is != code || !slices.Equal(in, let) || !same(got, want) {
		t.Fatalf("Free(%v, %d) = %v, %v, %d, want %v, %v, %d", l, task, got, in, is, want, let, code)
	}
	return got
}

// 6.1: New is free, and may be.
func TestNew(t *testing.T) {
	l := latch.New()
	if l.Writer != -1 || len(l.Readers) != 0 || len(l.Waits) != 0 || !latch.May(l) {
		t.Fatal(l)
	}
	l.Readers, l.Waits = append(l.Readers, 1), append(l.Waits, 2)
	if !same(latch.New(), none) {
		t.Fatal("two new ones share")
	}
}

// The document's example.
func TestExample(t *testing.T) {
	l := lock(t, latch.New(), 1, true, api.Latch{Writer: 1})
	share(t, l, 2, false, api.Latch{Writer: 1, Waits: list(-4)})
}

// 6.1: latches that may be.
func TestMay(t *testing.T) {
	all := make([]int, 64)
	for i := range all {
		all[i] = i
	}
	toRead := make([]int, 63)
	for i := range toRead {
		toRead[i] = -2 - i
	}
	for _, l := range []api.Latch{
		none, {}, {Writer: 63}, {Writer: -1, Readers: []int{}, Waits: []int{}},
		{Writer: -1, Readers: list(0)}, {Writer: -1, Readers: list(63)}, {Writer: -1, Readers: list(0, 63)}, {Writer: -1, Readers: all},
		{Writer: 5, Waits: list(0)}, {Writer: 5, Waits: list(63)}, {Writer: 5, Waits: list(-2)}, {Writer: 5, Waits: list(-65)},
		{Writer: 5, Waits: list(9, 8, -9, -8)}, {Writer: 5, Waits: list(-9, -8, 9, 8)}, {Writer: 0, Waits: list(-3, -4)},
		{Writer: 63, Waits: all[:63]}, {Writer: 63, Waits: toRead},
		{Writer: -1, Readers: list(1), Waits: list(0)}, {Writer: -1, Readers: list(1, 3), Waits: list(2, -2, -6)}, {Writer: -1, Readers: list(62), Waits: list(63, -3, 0)},
		{Writer: -1, Readers: all[1:], Waits: list(0)},
	} {
		if !latch.May(l) {
			t.Errorf("May(%v) is false", l)
		}
	}
}

// mayNot are latches that may not be, by each of 6.1's words.
func mayNot() []api.Latch {
	bad := []api.Latch{
		// Readers that are none, don't rise, stand beside a Writer
		{Writer: -1, Readers: list(0, 64)}, {Writer: -1, Readers: list(-1, 0)},
		{Writer: -1, Readers: list(2, 2)}, {Writer: -1, Readers: list(3, 2)}, {Writer: -1, Readers: list(0, 5, 5)}, {Writer: -1, Readers: list(0, 5, 4)}, {Writer: -1, Readers: list(1, 5, 0)},
		{Writer: 0, Readers: list(1)}, {Writer: 1, Readers: list(1)}, {Writer: 63, Readers: list(0, 1)},
		// who waits twice
		{Writer: 5, Waits: list(2, 2)}, {Writer: 5, Waits: list(-4, -4)}, {Writer: 5, Waits: list(2, -4)}, {Writer: 5, Waits: list(-4, 2)}, {Writer: 5, Waits: list(2, -9, 0, -2)}, {Writer: -1, Readers: list(5), Waits: list(1, 2, -3)},
		// who waits and holds
		{Writer: 5, Waits: list(5)}, {Writer: 5, Waits: list(-7)}, {Writer: 5, Waits: list(0, -7)}, {Writer: 0, Waits: list(0)}, {Writer: 0, Waits: list(-2)}, {Writer: 63, Waits: list(-65)},
		{Writer: -1, Readers: list(3, 6), Waits: list(3)}, {Writer: -1, Readers: list(3, 6), Waits: list(6)}, {Writer: -1, Readers: list(3, 6), Waits: list(1, -5)}, {Writer: -1, Readers: list(3, 6), Waits: list(1, 2, -8)},
		// who need not wait
		{Writer: -1, Waits: list(0)}, {Writer: -1, Waits: list(-2)}, {Writer: -1, Waits: list(5, 6)}, {Writer: -1, Waits: list(-7, 6)},
		{Writer: -1, Readers: list(1), Waits: list(-4)}, {Writer: -1, Readers: list(1, 2), Waits: list(-5, 4)}, {Writer: -1, Readers: list(1), Waits: list(-2, -4)},
		// long ones
		{Writer: -1, Readers: make([]int, 100_000)}, {Writer: 5, Waits: slices.Repeat(list(1), 100_000)},
	}
	for _, task := range noTasks {
		if task != -1 {
			bad = append(bad, api.Latch{Writer: task}, api.Latch{Writer: task, Waits: list(2)})
		}
		bad = append(bad, api.Latch{Writer: -1, Readers: list(task)}, api.Latch{Writer: 5, Readers: list(task)})
	}
	for _, wait := range []int{-1, 64, -66, 65, -67, 1 << 32, -1 << 32, math.MaxInt, math.MaxInt - 1, math.MinInt, math.MinInt + 1} {
		bad = append(bad, api.Latch{Writer: 5, Waits: list(wait)}, api.Latch{Writer: 5, Waits: list(1, -4, wait)}, api.Latch{Writer: -1, Readers: list(5), Waits: list(1, wait)}, api.Latch{Writer: -1, Waits: list(wait)})
	}
	return bad
}

// 6.1: what may not be is answered as it is, whoever asks: false; ErrArg.
func TestMayNot(t *testing.T) {
	for _, l := range mayNot() {
		if latch.May(l) {
			t.Errorf("May(%v)", l)
		}
		was := copied(l)
		for _, task := range append(list(0, 1, 2, 5, 9, 63), noTasks...) {
			lock(t, l, task, false, was)
			share(t, l, task, false, was)
			free(t, l, task, api.ErrArg, nil, was)
		}
	}
}

// 6.2: all four who may hold it, all two who may ask: one alone writes, readers read together.
func TestWhoIsLetIn(t *testing.T) {
	for _, task := range []int{0, 1, 31, 62, 63} {
		lock(t, none, task, true, api.Latch{Writer: task})
		share(t, none, task, true, api.Latch{Writer: -1, Readers: list(task)})
	}
	for _, l := range []api.Latch{{Writer: 7}, {Writer: -1, Readers: list(7)}, {Writer: -1, Readers: list(7, 8)}} {
		for _, task := range []int{0, 1, 6, 9, 62, 63} {
			want := copied(l)
			want.Waits = list(task)
			lock(t, l, task, false, want)
			if l.Writer == 7 {
				want.Waits = list(-2 - task)
				share(t, l, task, false, want)
				continue
			}
			want.Waits, want.Readers = nil, append(want.Readers, task)
			slices.Sort(want.Readers)
			share(t, l, task, true, want)
		}
	}
}

// 6.2, 6.3: where somebody waits, whoever asks waits at the end.
func TestWhoAsksWaitsAtTheEnd(t *testing.T) {
	for _, l := range []api.Latch{
		{Writer: 7, Waits: list(8)}, {Writer: 7, Waits: list(-10)}, {Writer: 7, Waits: list(9, -10, 11, -2)},
		{Writer: -1, Readers: list(7), Waits: list(8)}, {Writer: -1, Readers: list(3, 7), Waits: list(8, -11, -12, 0)},
	} {
		for _, task := range []int{1, 2, 30, 63} {
			want := copied(l)
			want.Waits = append(copied(l).Waits, task)
			lock(t, l, task, false, want)
			want.Waits = append(copied(l).Waits, -2-task)
			share(t, l, task, false, want)
		}
	}
}

// 6.2: of who holds it or waits already, for whatever: as it is, false.
func TestNobodyAsksTwice(t *testing.T) {
	for _, x := range []struct {
		l     api.Latch
		tasks []int
	}{
		{api.Latch{Writer: 0}, list(0)}, {api.Latch{Writer: 63}, list(63)},
		{api.Latch{Writer: -1, Readers: list(0)}, list(0)},
		{api.Latch{Writer: -1, Readers: list(0, 5, 63)}, list(0, 5, 63)},
		{api.Latch{Writer: 3, Waits: list(0, -3, 63, -64)}, list(3, 0, 1, 63, 62)},
		{api.Latch{Writer: -1, Readers: list(0, 63), Waits: list(1, -4, -5, 4)}, list(0, 63, 1, 2, 3, 4)},
	} {
		for _, task := range x.tasks {
			lock(t, x.l, task, false, x.l)
			share(t, x.l, task, false, x.l)
		}
	}
}

// 6.2: of no task: as it is, false; ErrState.
func TestNoTask(t *testing.T) {
	for _, l := range []api.Latch{
		none, {Writer: 0}, {Writer: 63, Waits: list(0, -3)}, {Writer: -1, Readers: list(0, 1, 63)}, {Writer: -1, Readers: list(0), Waits: list(1, 2, -5, -65)},
	} {
		for _, task := range noTasks {
			lock(t, l, task, false, l)
			share(t, l, task, false, l)
			free(t, l, task, api.ErrState, nil, l)
		}
	}
}

// 6.2: Free of who does not hold it, waits or not: ErrState, and as it is.
func TestFreeOfNobody(t *testing.T) {
	free(t, none, 0, api.ErrState, nil, none)
	free(t, api.Latch{Writer: 1}, 0, api.ErrState, nil, api.Latch{Writer: 1})
	for _, l := range []api.Latch{{Writer: 1, Waits: list(2, -5)}, {Writer: -1, Readers: list(1, 4), Waits: list(2, -5, -7)}} {
		for _, task := range []int{0, 2, 3, 5, 63} {
			free(t, l, task, api.ErrState, nil, l)
		}
	}
}

// 6.2: who is let in by a Free: as many as may be together, in turn, none past one who may not.
func TestFree(t *testing.T) {
	for _, x := range []struct {
		l    api.Latch
		task int
		let  []int
		want api.Latch
	}{
		{api.Latch{Writer: 0}, 0, nil, none},
		{api.Latch{Writer: 63}, 63, nil, none},
		{api.Latch{Writer: -1, Readers: list(0)}, 0, nil, none},
		{api.Latch{Writer: -1, Readers: list(0, 5, 63)}, 0, nil, api.Latch{Writer: -1, Readers: list(5, 63)}},
		{api.Latch{Writer: -1, Readers: list(0, 5, 63)}, 5, nil, api.Latch{Writer: -1, Readers: list(0, 63)}},
		{api.Latch{Writer: -1, Readers: list(0, 5, 63)}, 63, nil, api.Latch{Writer: -1, Readers: list(0, 5)}},
		// a writer, alone
		{api.Latch{Writer: 1, Waits: list(0)}, 1, list(0), api.Latch{Writer: 0}},
		{api.Latch{Writer: 1, Waits: list(2, 0, -5)}, 1, list(2), api.Latch{Writer: 2, Waits: list(0, -5)}},
		{api.Latch{Writer: 1, Waits: list(2, -5, -6)}, 1, list(2), api.Latch{Writer: 2, Waits: list(-5, -6)}},
		// readers, in turn, up to the first writer
		{api.Latch{Writer: 1, Waits: list(-2)}, 1, list(0), api.Latch{Writer: -1, Readers: list(0)}},
		{api.Latch{Writer: 1, Waits: list(-65, -2, -7)}, 1, list(63, 0, 5), api.Latch{Writer: -1, Readers: list(0, 5, 63)}},
		{api.Latch{Writer: 1, Waits: list(-9, -4, 3, -8, 5)}, 1, list(7, 2), api.Latch{Writer: -1, Readers: list(2, 7), Waits: list(3, -8, 5)}},
		// the writer waits for all who read, and those behind it with it
		{api.Latch{Writer: -1, Readers: list(1, 2), Waits: list(3, -6)}, 1, nil, api.Latch{Writer: -1, Readers: list(2), Waits: list(3, -6)}},
		{api.Latch{Writer: -1, Readers: list(2), Waits: list(3, -6)}, 2, list(3), api.Latch{Writer: 3, Waits: list(-6)}},
		{api.Latch{Writer: 3, Waits: list(-6)}, 3, list(4), api.Latch{Writer: -1, Readers: list(4)}},
	} {
		free(t, x.l, x.task, api.OK, x.let, x.want)
	}
}

// 6.2: all 64 tasks at one latch.
func TestAllTasks(t *testing.T) {
	l, want := latch.New(), copied(none)
	for task := 63; task >= 0; task-- {
		want.Readers = slices.Insert(want.Readers, 0, task)
		l = share(t, l, task, true, want)
	}
	for task := range 64 {
		want.Readers = want.Readers[1:]
		l = free(t, l, task, api.OK, nil, want)
	}
	want = api.Latch{Writer: 63}
	l = lock(t, l, 63, true, want)
	for task := range 63 {
		want.Waits = append(want.Waits, task)
		l = lock(t, l, task, false, want)
	}
	for task := range 63 {
		l = free(t, l, l.Writer, api.OK, list(task), api.Latch{Writer: task, Waits: want.Waits[task+1:]})
	}
	all := api.Latch{Writer: -1, Readers: list(63)}
	for task := range 62 {
		l = share(t, l, 61-task, false, api.Latch{Writer: 62, Waits: append(l.Waits, -2-(61-task))})
		all.Readers = slices.Insert(all.Readers, task, task)
	}
	l = share(t, l, 63, false, api.Latch{Writer: 62, Waits: append(l.Waits, -2-63)})
	turn := append(copied(all).Readers[:62], 63)
	slices.Reverse(turn[:62])
	free(t, l, 62, api.OK, turn, all)
}

// 6.2: Has, of latches that may not be, too.
func TestHas(t *testing.T) {
	for _, x := range []struct {
		l    api.Latch
		task int
		want bool
	}{
		{none, 0, false}, {none, -1, false}, {api.Latch{}, 0, true}, {api.Latch{}, 1, false},
		{api.Latch{Writer: 63}, 63, true}, {api.Latch{Writer: 63}, 62, false}, {api.Latch{Writer: 63}, -65, false},
		{api.Latch{Writer: -1, Readers: list(2, 7, 63)}, 2, true}, {api.Latch{Writer: -1, Readers: list(2, 7, 63)}, 7, true}, {api.Latch{Writer: -1, Readers: list(2, 7, 63)}, 63, true},
		{api.Latch{Writer: -1, Readers: list(2, 7, 63)}, 3, false}, {api.Latch{Writer: -1, Readers: list(2, 7, 63)}, -1, false}, {api.Latch{Writer: -1, Readers: list(2, 7, 63)}, -4, false},
		// who waits does not hold
		{api.Latch{Writer: 1, Waits: list(2, -5)}, 2, false}, {api.Latch{Writer: 1, Waits: list(2, -5)}, 3, false}, {api.Latch{Writer: 1, Waits: list(2, -5)}, -5, false},
		// latches that may not be
		{api.Latch{Writer: 1, Readers: list(2)}, 1, true}, {api.Latch{Writer: 1, Readers: list(2)}, 2, true},
		{api.Latch{Writer: -1, Readers: list(9, 3, 3)}, 3, true}, {api.Latch{Writer: -1, Readers: list(9, 3, 3)}, 9, true}, {api.Latch{Writer: -1, Readers: list(9, 3, 3)}, 4, false},
		{api.Latch{Writer: -1, Waits: list(5)}, 5, false}, {api.Latch{Writer: 5, Waits: list(5)}, 5, true},
	} {
		if got := latch.Has(x.l, x.task); got != x.want {
			t.Errorf("Has(%v, %d) = %v", x.l, x.task, got)
		}
	}
	for _, task := range noTasks {
		if latch.Has(api.Latch{Writer: task}, task) || latch.Has(api.Latch{Writer: task, Waits: list(task)}, task) {
			t.Errorf("%d is no task, and its own Writer", task)
		}
		if !latch.Has(api.Latch{Writer: -1, Readers: list(task)}, task) {
			t.Errorf("%d is one of its Readers", task)
		}
	}
}

// 6.2: Same in all parts; a nil list and an empty one are the same.
func TestSame(t *testing.T) {
	all := []api.Latch{
		none, {}, {Writer: 1}, {Writer: math.MinInt}, {Writer: -1, Readers: list(0)}, {Writer: -1, Readers: list(0, 1)}, {Writer: -1, Readers: list(1, 0)}, {Writer: -1, Readers: list(1)},
		{Writer: -1, Waits: list(0)}, {Writer: -1, Waits: list(0, 1)}, {Writer: -1, Waits: list(1, 0)}, {Writer: -1, Waits: list(-2)},
		{Writer: 1, Waits: list(0)}, {Writer: -1, Readers: list(0), Waits: list(1)}, {Writer: -1, Readers: list(0), Waits: list(2)}, {Writer: -1, Readers: list(0), Waits: list(1, -4)}, {Writer: -1, Readers: list(1), Waits: list(0)},
	}
	for i, a := range all {
		for j, b := range all {
			if latch.Same(a, copied(b)) != (i == j) {
				t.Errorf("Same(%v, %v) is not %v", a, b, i == j)
			}
		}
	}
	empty := api.Latch{Writer: -1, Readers: []int{}, Waits: make([]int, 0, 5)}
	if !latch.Same(none, empty) || !latch.Same(empty, none) || !latch.May(empty) {
		t.Error("a nil list and an empty one")
	}
}

// wish is what a task asked for, and still holds or waits for.
type wish struct {
	task   int
	writes bool
}

// queue is a latch told anew, long way round: all wishes, in the order in which they were asked. Nobody passes anybody
// (6.3): who writes is let in at the head of the queue alone, who reads behind readers alone.
type queue []wish

// in tells whether the wish at a place is let in.
func (q queue) in(at int) bool {
	for _, ahead := range q[:at] {
		if q[at].writes || ahead.writes {
			return false
		}
	}
	return true
}

// at is the place of a task, or -1.
func (q queue) at(task int) int {
	return slices.IndexFunc(q, func(w wish) bool { return w.task == task })
}

// holds is the tasks that are let in, in turn.
func (q queue) holds() []int {
	var l []int
	for at, w := range q {
		if q.in(at) {
			l = append(l, w.task)
		}
	}
	return l
}

// latch is the latch that a queue is.
func (q queue) latch() api.Latch {
	l := copied(none)
	for at, w := range q {
		switch in := q.in(at); {
		case in && w.writes:
			l.Writer = w.task
		case in:
			l.Readers = append(l.Readers, w.task)
		case w.writes:
			l.Waits = append(l.Waits, w.task)
		default:
			l.Waits = append(l.Waits, -2-w.task)
		}
	}
	slices.Sort(l.Readers)
	return l
}

// Kinds of steps.
const (
	toLock = iota
	toShare
	toFree
	kinds
)

// both makes a step on a latch and on the queue that it is, and holds them against each other: the queue behind it.
func both(t *testing.T, q queue, kind, task int) queue {
	t.Helper()
	l := q.latch()
	at := q.at(task)
	if kind == toFree {
		if at < 0 || !q.in(at) {
			free(t, l, task, api.ErrState, nil, l)
			return q
		}
		left := slices.Delete(slices.Clone(q), at, at+1)
		let := slices.DeleteFunc(left.holds(), func(t int) bool { return slices.Contains(q.holds(), t) })
		free(t, l, task, api.OK, let, left.latch())
		return left
	}
	left, is := q, false
	if at < 0 {
		left = append(slices.Clone(q), wish{task, kind == toLock})
		is = left.in(len(q))
	}
	if kind == toLock {
		lock(t, l, task, is, left.latch())
	} else {
		share(t, l, task, is, left.latch())
	}
	return left
}

// told is a latch as a text, for maps.
func told(l api.Latch) string { return fmt.Sprint(l.Writer, l.Readers, l.Waits) }

// reached is all latches that steps of the tasks 0 to n - 1 lead to, by their texts, with the queues that they are.
func reached(t *testing.T, n int) map[string]queue {
	t.Helper()
	all := map[string]queue{told(none): nil}
	work := []queue{nil}
	for len(work) > 0 {
		q := work[0]
		work = work[1:]
		for kind := range kinds {
			for task := range n {
				left := both(t, q, kind, task)
				if _, ok := all[told(left.latch())]; !ok {
					all[told(left.latch())] = left
					work = append(work, left)
				}
			}
		}
	}
	return all
}

// 6.2, 6.3, T1: all steps of five tasks on all latches that they lead to, beside queues; each of these may be.
func TestAllSteps(t *testing.T) {
	all := reached(t, 5)
	for name, q := range all {
		l := q.latch()
		if !latch.May(l) {
			t.Errorf("May(%s) is false", name)
		}
		for task := -1; task < 5; task++ {
			if latch.Has(l, task) != slices.Contains(q.holds(), task) {
				t.Errorf("Has(%s, %d) is wrong", name, task)
			}
		}
	}
}

// lists is all lists of at most n of these numbers.
func lists(n int, of ...int) [][]int {
	all := [][]int{nil}
	from := 0
	for range n {
		to := len(all)
		for _, l := range all[from:to] {
			for _, k := range of {
				all = append(all, append(slices.Clone(l), k))
			}
		}
		from = to
	}
	return all
}

// 6.1: of all latches of three tasks, those may be that steps lead to, and no others; of the others all calls answer them as they are.
func TestMayIsWhatStepsLeadTo(t *testing.T) {
	can := reached(t, 3)
	count := 0
	waits := lists(3, -66, -4, -3, -2, -1, 0, 1, 2, 64)
	for _, readers := range lists(3, -1, 0, 1, 2, 64) {
		for writer := -2; writer < 3; writer++ {
			for _, w := range waits {
				l := api.Latch{Writer: writer, Readers: readers, Waits: w}
				_, ok := can[told(l)]
				if latch.May(l) != ok {
					t.Fatalf("May(%v) is not %v", l, ok)
				}
				if ok {
					count++
					continue
				}
				lock(t, l, 1, false, l)
				share(t, l, 1, false, l)
				free(t, l, 1, api.ErrArg, nil, l)
			}
		}
	}
	if count != len(can) {
		t.Fatalf("%d latches of %d", count, len(can))
	}
}

// 6.2, 6.3, T1: long lives of latches, by chance, beside queues, with many tasks and few; at the end all that waits is let in, in turn.
func TestLives(t *testing.T) {
	r := rand.New(rand.NewSource(6))
	for life := range 400 {
		tasks, writers := 1+r.Intn(64), r.Intn(5)
		var q queue
		for range 60 + r.Intn(200) {
			kind, task := toFree, r.Intn(tasks)
			switch x := r.Intn(8); {
			case x < 3+life%3 && r.Intn(5) < writers:
				kind = toLock
			case x < 3+life%3:
				kind = toShare
			case len(q) > 0 && x < 7:
				task = q.holds()[r.Intn(len(q.holds()))]
			}
			q = both(t, q, kind, task)
		}
		for len(q) > 0 {
			q = both(t, q, toFree, q.holds()[r.Intn(len(q.holds()))])
		}
	}
}

// 6.3: behind a writer that waits, readers that come and go don't keep it waiting: it is let in as soon as those ahead of it are gone.
func TestNobodyPassesWhoWaits(t *testing.T) {
	l := share(t, latch.New(), 10, true, api.Latch{Writer: -1, Readers: list(10)})
	l = share(t, l, 11, true, api.Latch{Writer: -1, Readers: list(10, 11)})
	l, _ = latch.Lock(l, 20)
	for task := range 10 {
		if l, _ = latch.Share(l, task); latch.Has(l, task) {
			t.Fatalf("%d passes 20: %v", task, l)
		}
	}
	if l, _ = latch.Lock(l, 21); latch.Has(l, 21) {
		t.Fatalf("21 passes 20: %v", l)
	}
	waits := list(20, -2, -3, -4, -5, -6, -7, -8, -9, -10, -11, 21)
	l = free(t, l, 10, api.OK, nil, api.Latch{Writer: -1, Readers: list(11), Waits: waits})
	// 10 was there before, and waits behind all the same
	waits = append(waits, -12)
	l = share(t, l, 10, false, api.Latch{Writer: -1, Readers: list(11), Waits: waits})
	l = free(t, l, 11, api.OK, list(20), api.Latch{Writer: 20, Waits: waits[1:]})
	readers := list(0, 1, 2, 3, 4, 5, 6, 7, 8, 9)
	l = free(t, l, 20, api.OK, readers, api.Latch{Writer: -1, Readers: readers, Waits: list(21, -12)})
	for task := range 9 {
		l = free(t, l, task, api.OK, nil, api.Latch{Writer: -1, Readers: readers[task+1:], Waits: list(21, -12)})
	}
	l = free(t, l, 9, api.OK, list(21), api.Latch{Writer: 21, Waits: list(-12)})
	free(t, l, 21, api.OK, list(10), api.Latch{Writer: -1, Readers: list(10)})
}

// spare is a list with room behind it that is marked.
func spare(l ...int) []int {
	long := append(slices.Clone(l), 777, 778, 779)
	return long[:len(l)]
}

// marked tells whether a spare list's room is as it was.
func marked(l []int) bool { return slices.Equal(l[len(l):len(l)+3], list(777, 778, 779)) }

// fill overwrites all that a list answered has, its room, too.
func fill(l []int) {
	l = l[:cap(l)]
	for i := range l {
		l[i] = 555
	}
}

// Rules 2 and 3: what is handed in is not changed, and not shared with what is answered; no two lists of an answer share; done again, it is the same.
func TestAnswersAreTheCallers(t *testing.T) {
	for _, l := range []api.Latch{
		{Writer: -1, Readers: spare(), Waits: spare()}, {Writer: 1, Readers: spare(), Waits: spare()},
		{Writer: 1, Readers: spare(), Waits: spare(2, -5, 4)}, {Writer: 1, Readers: spare(), Waits: spare(-7, -2, -4, 3)},
		{Writer: -1, Readers: spare(1, 4), Waits: spare()}, {Writer: -1, Readers: spare(1), Waits: spare(2, -5, 4)}, {Writer: -1, Readers: spare(1, 4), Waits: spare(2, -5)},
		{Writer: -1, Readers: spare(4, 1), Waits: spare(2, 2)}, {Writer: 70, Readers: spare(), Waits: spare(1, -9)},
	} {
		was := copied(l)
		still := func(call string) {
			t.Helper()
			if !same(l, was) || !marked(l.Readers) || !marked(l.Waits) {
				t.Fatalf("%s changes %v", call, was)
			}
		}
		for _, task := range []int{0, 1, 2, 6, -1} {
			for _, call := range []func() (api.Latch, []int, int){
				func() (api.Latch, []int, int) { x, _ := latch.Lock(l, task); return x, nil, 0 },
				func() (api.Latch, []int, int) { x, _ := latch.Share(l, task); return x, nil, 0 },
				func() (api.Latch, []int, int) { return latch.Free(l, task) },
			} {
				x, in, code := call()
				y, again, twice := call()
				kept := copied(y)
				if !same(x, y) || !slices.Equal(in, again) || code != twice {
					t.Fatalf("two answers of %v: %v, %v", was, x, y)
				}
				fill(x.Readers)
				if !slices.Equal(x.Waits, y.Waits) || !slices.Equal(in, again) {
					t.Fatal("Readers are shared")
				}
				fill(x.Waits)
				if !slices.Equal(in, again) {
					t.Fatal("Waits are shared")
				}
				fill(in)
				if !same(y, kept) {
					t.Fatal("two answers share")
				}
				still("who has the answer")
			}
		}
		latch.May(l)
		latch.Has(l, 1)
		latch.Same(l, l)
		still("May, Has or Same")
	}
}
