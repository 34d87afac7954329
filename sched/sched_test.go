package sched_test

import (
	"math"
	"math/big"
	"math/rand"
	"slices"
	"testing"

	"lavabo/api"
	"lavabo/sched"
)

// picks are numbers at which a pick may go wrong: around 0, and at the ends of their range.
var picks = []int{0, 1, 2, 3, 4, 5, 63, 64, 65, 1_000_000_007, 1<<32 - 1, 1 << 32, 1<<32 + 1, math.MaxInt32, math.MaxInt - 1, math.MaxInt, -1, -2, -3, -4, -5, -63, -64, -65, -1_000_000_007, -1 << 32, math.MinInt32, math.MinInt + 1, math.MinInt}

// below are numbers below 0.
var below = []int{-1, -2, -3, -64, -65, -1 << 32, -1<<32 + 1, math.MinInt32, math.MinInt + 1, math.MinInt}

// noTasks are numbers of no task of n.
func noTasks(n int) []int {
	return append([]int{n, n + 1, 64, 65, 128, 1 << 32, 1<<32 + 1, math.MaxInt32, math.MaxInt - 1, math.MaxInt}, below...)
}

// Short words for how a task stands.
func idle() api.Task              { return api.Task{State: api.TIdle, On: -1} }
func ready(pc int) api.Task       { return api.Task{State: api.TReady, PC: pc, On: -1} }
func done(pc int) api.Task        { return api.Task{State: api.TDone, PC: pc, On: -1} }
func blocked(pc, on int) api.Task { return api.Task{State: api.TBlocked, PC: pc, On: on} }

// place is n modulo count, from 0 on, apart from the program.
func place(n, count int) int {
	return int(new(big.Int).Mod(big.NewInt(int64(n)), big.NewInt(int64(count))).Int64())
}

// stands asks everything of a schedule of the tasks that want tells.
func stands(t *testing.T, s *sched.Sched, want []api.Task) {
	t.Helper()
	var are []int
	waits := 0
	for k, task := range want {
		if got := s.Task(k); got != task {
			t.Fatalf("Task(%d) = %+v, want %+v", k, got, task)
		}
		if task.State == api.TReady {
			are = append(are, k)
		}
		if task.State == api.TBlocked {
			waits++
		}
	}
	for _, k := range []int{-1, len(want), len(want) + 1, 64} {
		if got := s.Task(k); got != (api.Task{}) {
			t.Fatalf("Task(%d) = %+v of %d tasks", k, got, len(want))
		}
	}
	if got := s.Ready(); !slices.Equal(got, are) {
		t.Fatalf("Ready() = %v, want %v", got, are)
	}
	if got := s.Stuck(); got != (len(are) == 0 && waits > 0) {
		t.Fatalf("Stuck() = %v of %v", got, want)
	}
	for _, n := range []int{0, 1, 2, -1, -2} {
		pick := -1
		if len(are) > 0 {
			pick = are[place(n, len(are))]
		}
		if got := s.Pick(n); got != pick {
			t.Fatalf("Pick(%d) = %d, want %d of %v", n, got, pick, are)
		}
	}
}

// wake, pass (Go), block, end (Done) and free make a step, and hold what it answers against want.
func wake(t *testing.T, s *sched.Sched, task, pc int, want bool) {
	t.Helper()
	if s.Wake(task, pc) != want {
		t.Fatalf("Wake(%d, %d) is not %v", task, pc, want)
	}
}

func pass(t *testing.T, s *sched.Sched, task, pc int, want bool) {
	t.Helper()
	if s.Go(task, pc) != want {
		t.Fatalf("Go(%d, %d) is not %v", task, pc, want)
	}
}

func block(t *testing.T, s *sched.Sched, task, on int, want bool) {
	t.Helper()
	if s.Block(task, on) != want {
		t.Fatalf("Block(%d, %d) is not %v", task, on, want)
	}
}

func end(t *testing.T, s *sched.Sched, task int, want bool) {
	t.Helper()
	if s.Done(task) != want {
		t.Fatalf("Done(%d) is not %v", task, want)
	}
}

func free(t *testing.T, s *sched.Sched, on int, want ...int) {
	t.Helper()
	if got := s.Free(on); !slices.Equal(got, want) {
		t.Fatalf("Free(%d) = %v, want %v", on, got, want)
	}
}

// led is a schedule whose tasks were led to stand so.
func led(t *testing.T, want ...api.Task) *sched.Sched {
	t.Helper()
	s := sched.New(len(want))
	for k, task := range want {
		if task.State == api.TIdle {
			continue
		}
		wake(t, s, k, task.PC, true)
		switch task.State {
		case api.TBlocked:
			block(t, s, k, task.On, true)
		case api.TDone:
			end(t, s, k, true)
		}
	}
	stands(t, s, want)
	return s
}

// 7.1: New takes 1 to 64; its tasks are idle.
func TestNew(t *testing.T) {
	for _, n := range []int{0, -1, -2, -64, 65, 66, 128, 1 << 32, 1<<32 + 1, math.MaxInt32, math.MaxInt, math.MinInt32, math.MinInt, math.MinInt + 1} {
		if sched.New(n) != nil {
			t.Errorf("New(%d) is a schedule", n)
		}
	}
	for n := 1; n <= 64; n++ {
		s := sched.New(n)
		if s == nil {
			t.Fatalf("New(%d) is none", n)
		}
		stands(t, s, slices.Repeat([]api.Task{idle()}, n))
		wake(t, s, n, 1, false)
		wake(t, s, n-1, 1, true)
		stands(t, s, append(slices.Repeat([]api.Task{idle()}, n-1), ready(1)))
	}
}

// 7.2: the document's example.
func TestExample(t *testing.T) {
	if got := sched.New(1).Pick(0); got != -1 {
		t.Fatal(got)
	}
}

// 7.1: every step on a task in every state, at every place: what it answers, how the task stands then, and that the others stand as they stood.
func TestSteps(t *testing.T) {
	others := []api.Task{idle(), ready(3), blocked(4, 9), done(5)}
	for _, x := range []struct {
		was                           api.Task
		wake, pass, block, end, freed api.Task // as it was: no step
	}{
		{idle(), ready(7), idle(), idle(), idle(), idle()},
		{ready(6), ready(6), ready(7), blocked(6, 8), done(6), ready(6)},
		{blocked(6, 8), blocked(6, 8), blocked(6, 8), blocked(6, 8), blocked(6, 8), ready(6)},
		{blocked(6, 9), blocked(6, 9), blocked(6, 9), blocked(6, 9), blocked(6, 9), blocked(6, 9)},
		{done(6), ready(7), done(6), done(6), done(6), done(6)},
	} {
		for at := range len(others) + 1 {
			was := slices.Insert(slices.Clone(others), at, x.was)
			then := func(task api.Task) []api.Task { return slices.Insert(slices.Clone(others), at, task) }
			s := led(t, was...)
			wake(t, s, at, 7, x.wake != x.was)
			stands(t, s, then(x.wake))
			s = led(t, was...)
			pass(t, s, at, 7, x.pass != x.was)
			stands(t, s, then(x.pass))
			s = led(t, was...)
			block(t, s, at, 8, x.block != x.was)
			stands(t, s, then(x.block))
			s = led(t, was...)
			end(t, s, at, x.end != x.was)
			stands(t, s, then(x.end))
			s = led(t, was...)
			if x.freed != x.was {
				free(t, s, 8, at)
			} else {
				free(t, s, 8)
			}
			stands(t, s, then(x.freed))
		}
	}
}

// 7.1: a Go to where the task stands, and a Free and a Block on the same number, are steps all the same.
func TestStepsInPlace(t *testing.T) {
	s := led(t, ready(6))
	pass(t, s, 0, 6, true)
	stands(t, s, []api.Task{ready(6)})
	for range 3 {
		block(t, s, 0, 8, true)
		stands(t, s, []api.Task{blocked(6, 8)})
		free(t, s, 8, 0)
		stands(t, s, []api.Task{ready(6)})
	}
	for range 3 {
		end(t, s, 0, true)
		stands(t, s, []api.Task{done(6)})
		wake(t, s, 0, 6, true)
		stands(t, s, []api.Task{ready(6)})
	}
}

// 7.1: places and numbers to wait for are all from 0 on.
func TestNumbers(t *testing.T) {
	for _, k := range []int{0, 1, 2, 63, 64, 65, 255, 256, 1 << 31, 1<<32 - 1, 1 << 32, 1<<32 + 1, math.MaxInt - 1, math.MaxInt} {
		s := sched.New(2)
		wake(t, s, 1, k, true)
		stands(t, s, []api.Task{idle(), ready(k)})
		pass(t, s, 1, 5, true)
		pass(t, s, 1, k, true)
		stands(t, s, []api.Task{idle(), ready(k)})
		block(t, s, 1, k, true)
		stands(t, s, []api.Task{idle(), blocked(k, k)})
		for _, on := range []int{k - 1, k + 1, k ^ 1<<31, k ^ 1<<32, k ^ 1<<8, -k - 1, -1} {
			free(t, s, on)
		}
		free(t, s, k, 1)
		stands(t, s, []api.Task{idle(), ready(k)})
		end(t, s, 1, true)
		stands(t, s, []api.Task{idle(), done(k)})
	}
}

// 7.1: of numbers below 0, and of no such task: false, and all stands as it stood.
func TestWrongNumbers(t *testing.T) {
	for _, n := range []int{1, 2, 4, 63, 64} {
		want := make([]api.Task, n)
		for k := range want {
			want[k] = []api.Task{ready(0), idle(), blocked(3, 0), done(5)}[(k+n/4)%4]
		}
		s := led(t, want...)
		for k := range n {
			for _, wrong := range below {
				wake(t, s, k, wrong, false)
				pass(t, s, k, wrong, false)
				block(t, s, k, wrong, false)
			}
		}
		for _, no := range noTasks(n) {
			for _, k := range []int{0, 1, -1, math.MaxInt, math.MinInt} {
				wake(t, s, no, k, false)
				pass(t, s, no, k, false)
				block(t, s, no, k, false)
			}
			end(t, s, no, false)
			if s.Task(no) != (api.Task{}) {
				t.Fatalf("Task(%d) of %d tasks is %+v", no, n, s.Task(no))
			}
		}
		for _, wrong := range below {
			free(t, s, wrong) // -1 is what all wait for that are not blocked
		}
		stands(t, s, want)
	}
}

// 7.1: Free has all of one number ready, and no others; it tells them rising, whoever began to wait first, and where they stand is as it was.
func TestFree(t *testing.T) {
	s := sched.New(64)
	want := make([]api.Task, 64)
	for k := 63; k >= 0; k-- {
		wake(t, s, k, 100+k, true)
		want[k] = ready(100 + k)
	}
	for _, k := range []int{63, 5, 40, 0, 17} {
		block(t, s, k, 7, true)
		want[k] = blocked(100+k, 7)
	}
	for _, k := range []int{6, 1, 62} {
		block(t, s, k, 0, true)
		want[k] = blocked(100+k, 0)
	}
	block(t, s, 30, 5, true) // the number of a task that waits, and no task's business
	want[30] = blocked(130, 5)
	end(t, s, 7, true)
	want[7] = done(107)
	stands(t, s, want)
	free(t, s, 1)
	free(t, s, 6)
	free(t, s, 63)
	stands(t, s, want)
	for _, x := range []struct {
		on  int
		let []int
	}{{7, []int{0, 5, 17, 40, 63}}, {0, []int{1, 6, 62}}, {5, []int{30}}} {
		free(t, s, x.on, x.let...)
		for _, k := range x.let {
			want[k] = ready(100 + k)
		}
		stands(t, s, want)
		free(t, s, x.on)
		stands(t, s, want)
	}
	for k := range 64 {
		if k != 7 {
			block(t, s, k, 9, true)
		}
	}
	end(t, s, 7, false)
	var all []int
	for k := range 64 {
		if k != 7 {
			all = append(all, k)
		}
	}
	free(t, s, 9, all...)
	stands(t, s, want)
}

// 7.2, 7.3: whoever is ready, and however many, any number is a pick: the one at the place of the number, from 0 on.
func TestPick(t *testing.T) {
	r := rand.New(rand.NewSource(7))
	for count := 1; count <= 64; count++ {
		s := sched.New(64)
		are := r.Perm(64)[:count]
		for _, k := range are {
			wake(t, s, k, 0, true) // in any order: the place is by numbers
		}
		for _, k := range r.Perm(64) {
			if !slices.Contains(are, k) && k%2 == 0 {
				wake(t, s, k, 0, true)
				block(t, s, k, k, true)
			} else if !slices.Contains(are, k) && k%3 == 0 {
				wake(t, s, k, 0, true)
				end(t, s, k, true)
			}
		}
		slices.Sort(are)
		if !slices.Equal(s.Ready(), are) {
			t.Fatalf("Ready() = %v, want %v", s.Ready(), are)
		}
		for k := -3 * count; k < 3*count; k++ {
			if got := s.Pick(k); got != are[(k+3*count)%count] {
				t.Fatalf("Pick(%d) = %d of %v", k, got, are)
			}
		}
		numbers := slices.Clone(picks)
		for range 100 {
			numbers = append(numbers, int(r.Uint64())>>r.Intn(60))
		}
		for _, n := range numbers {
			if got := s.Pick(n); got != are[place(n, count)] {
				t.Fatalf("Pick(%d) = %d of %v", n, got, are)
			}
		}
	}
}

// 7.2: who is not ready is not picked; of none, -1, whatever the number.
func TestPickOfNone(t *testing.T) {
	for _, tasks := range [][]api.Task{
		{idle()}, {done(0)}, {blocked(0, 0)}, {idle(), done(1), blocked(2, 3)}, slices.Repeat([]api.Task{idle()}, 64), slices.Repeat([]api.Task{blocked(1, 2)}, 64),
	} {
		s := led(t, tasks...)
		for _, n := range picks {
			if got := s.Pick(n); got != -1 {
				t.Fatalf("Pick(%d) = %d of %v", n, got, tasks)
			}
		}
	}
}

// 7.2: Stuck, of every way in which up to four tasks may stand, and of one among 64.
func TestStuck(t *testing.T) {
	kinds := []api.Task{idle(), ready(1), blocked(2, 3), done(4)}
	for n := 1; n <= 4; n++ {
		for way := range 1 << (2 * n) {
			tasks := make([]api.Task, n)
			for k := range tasks {
				tasks[k] = kinds[way>>(2*k)&3]
			}
			led(t, tasks...)
		}
	}
	for k := range 64 {
		tasks := slices.Repeat([]api.Task{idle()}, 64)
		tasks[k] = blocked(0, 0)
		if s := led(t, tasks...); !s.Stuck() {
			t.Fatalf("%d waits alone", k)
		}
		tasks = slices.Repeat([]api.Task{blocked(0, 0)}, 64)
		tasks[k] = ready(0)
		if s := led(t, tasks...); s.Stuck() {
			t.Fatalf("%d is ready", k)
		}
	}
}

// 7.1, 7.2: of nil, and of one made without New: no tasks.
func TestNobody(t *testing.T) {
	for _, s := range []*sched.Sched{nil, {}} {
		for range 2 {
			for _, k := range noTasks(0) {
				wake(t, s, k, 0, false)
				pass(t, s, k, 0, false)
				block(t, s, k, 0, false)
				end(t, s, k, false)
				free(t, s, k)
				if s.Pick(k) != -1 || s.Task(k) != (api.Task{}) {
					t.Fatalf("there is a task %d", k)
				}
			}
			if len(s.Ready()) != 0 || s.Stuck() {
				t.Fatal("there are tasks")
			}
		}
	}
}

// Rule 2: what is answered is the caller's own, and two schedules share nothing.
func TestAnswersAreTheCallers(t *testing.T) {
	want := []api.Task{ready(1), blocked(2, 5), ready(3), blocked(4, 5), idle()}
	s, other := led(t, want...), led(t, want...)
	fill := func(l []int) {
		l = l[:cap(l)]
		for i := range l {
			l[i] = 555
		}
	}
	again := s.Ready()
	fill(s.Ready())
	stands(t, s, want)
	if !slices.Equal(again, []int{0, 2}) {
		t.Fatal("two answers share", again)
	}
	let := s.Free(5)
	again = s.Ready()
	if !slices.Equal(let, []int{1, 3}) {
		t.Fatal(let)
	}
	fill(let)
	want[1], want[3] = ready(2), ready(4)
	stands(t, s, want)
	if !slices.Equal(again, []int{0, 1, 2, 3}) {
		t.Fatal("two answers share", again)
	}
	task := s.Task(0)
	task.PC, task.State = 99, api.TDone
	stands(t, s, want)
	stands(t, other, []api.Task{ready(1), blocked(2, 5), ready(3), blocked(4, 5), idle()})
}

// Rule 3: what is asked alone changes nothing.
func TestAskingChangesNothing(t *testing.T) {
	want := []api.Task{ready(1), blocked(2, 5), ready(3), idle(), done(4), ready(0)}
	s := led(t, want...)
	for range 3 {
		for _, n := range picks {
			if got := s.Pick(n); got != []int{0, 2, 5}[place(n, 3)] {
				t.Fatalf("Pick(%d) = %d", n, got)
			}
			s.Task(n)
		}
		s.Ready()
		s.Stuck()
		stands(t, s, want)
	}
}

// plain is a schedule told anew: who is in which set, who waits in whose line.
type plain struct {
	n           int
	ready, done map[int]bool
	lines       map[int][]int
	pc          map[int]int
}

func newPlain(n int) *plain {
	return &plain{n: n, ready: map[int]bool{}, done: map[int]bool{}, lines: map[int][]int{}, pc: map[int]int{}}
}

// line is the number that a task waits for, or -1.
func (p *plain) line(task int) int {
	for on, l := range p.lines {
		if slices.Contains(l, task) {
			return on
		}
	}
	return -1
}

// tasks is how all stand.
func (p *plain) tasks() []api.Task {
	all := make([]api.Task, p.n)
	for k := range all {
		switch on := p.line(k); {
		case p.ready[k]:
			all[k] = ready(p.pc[k])
		case p.done[k]:
			all[k] = done(p.pc[k])
		case on >= 0:
			all[k] = blocked(p.pc[k], on)
		default:
			all[k] = idle()
		}
	}
	return all
}

// Kinds of steps.
const (
	toWake = iota
	toGo
	toBlock
	toDone
	toFree
	kinds
)

// step makes a step on both, and holds what they answer against each other. (Of Free, task is not asked.)
func (p *plain) step(t *testing.T, s *sched.Sched, kind, task, number int) {
	t.Helper()
	is, fit := task >= 0 && task < p.n, number >= 0
	switch kind {
	case toWake:
		may := is && fit && !p.ready[task] && p.line(task) < 0
		wake(t, s, task, number, may)
		if may {
			p.ready[task], p.pc[task] = true, number
			delete(p.done, task)
		}
	case toGo:
		may := is && fit && p.ready[task]
		pass(t, s, task, number, may)
		if may {
			p.pc[task] = number
		}
	case toBlock:
		may := is && fit && p.ready[task]
		block(t, s, task, number, may)
		if may {
			delete(p.ready, task)
			p.lines[number] = append(p.lines[number], task)
		}
	case toDone:
		may := is && p.ready[task]
		end(t, s, task, may)
		if may {
			delete(p.ready, task)
			p.done[task] = true
		}
	case toFree:
		let := p.lines[number]
		delete(p.lines, number)
		slices.Sort(let)
		free(t, s, number, let...)
		for _, k := range let {
			p.ready[k] = true
		}
	}
}

// 7.1, 7.2: all runs of four steps (five on one task) on up to three tasks, wrong ones among them, beside plain ones.
func TestAllRuns(t *testing.T) {
	type step struct{ kind, task, number int }
	for n := 1; n <= 3; n++ {
		var steps []step
		for task := range n {
			steps = append(steps, step{toWake, task, task}, step{toGo, task, 3}, step{toBlock, task, 0}, step{toBlock, task, 1}, step{toDone, task, 0})
		}
		steps = append(steps, step{toFree, 0, 0}, step{toFree, 0, 1}, step{toFree, 0, -1}, step{toWake, n, 0}, step{toWake, 0, -1})
		long := 4
		if n == 1 {
			long = 5
		}
		runs := 1
		for range long {
			runs *= len(steps)
		}
		for run := range runs {
			s, p := sched.New(n), newPlain(n)
			for range long {
				x := steps[run%len(steps)]
				run /= len(steps)
				p.step(t, s, x.kind, x.task, x.number)
			}
			stands(t, s, p.tasks())
		}
	}
}

// 7.1, 7.2: long lives of schedules, by chance, with few tasks and many, beside plain ones.
func TestLives(t *testing.T) {
	r := rand.New(rand.NewSource(71))
	for life := range 300 {
		n := 1 + r.Intn(64)
		if life < 8 {
			n = []int{1, 64, 2, 63, 1, 64, 3, 62}[life]
		}
		s, p := sched.New(n), newPlain(n)
		numbers := 1 + r.Intn(8)
		for range 50 + r.Intn(300) {
			kind, task, number := r.Intn(kinds), r.Intn(n), r.Intn(numbers)
			switch r.Intn(20) {
			case 0:
				task = noTasks(n)[r.Intn(len(noTasks(n)))]
			case 1:
				number = below[r.Intn(len(below))]
			case 2, 3, 4, 5, 6, 7:
				if k := s.Pick(int(r.Uint64())); k >= 0 {
					task = k
				}
			}
			p.step(t, s, kind, task, number)
			if r.Intn(8) == 0 {
				stands(t, s, p.tasks())
			}
		}
		stands(t, s, p.tasks())
	}
}

// drive has a schedule's tasks, which are ready at 0, go on until none is ready: whom a number picks makes a step. Task k
// goes to the place steps, and waits there, ahead of its end, for those that ahead has for it; who ends frees those that
// wait for it. It answers how many steps were made.
func drive(t *testing.T, s *sched.Sched, n, steps int, ahead func(k int) int, number func() int) int {
	t.Helper()
	count := 0
	for count <= n*(steps+2) {
		k := s.Pick(number())
		if k < 0 {
			return count
		}
		count++
		x, on := s.Task(k), ahead(k)
		switch {
		case x.State != api.TReady:
			t.Fatalf("%d is picked and not ready", k)
		case x.PC < steps:
			pass(t, s, k, x.PC+1, true)
		case on >= 0 && s.Task(on).State != api.TDone:
			block(t, s, k, on, true)
		default:
			end(t, s, k, true)
			s.Free(k)
		}
	}
	t.Fatalf("it does not end: %v", s.Ready())
	return 0
}

// 7.3, T4: whatever the numbers, each pick is somebody's step; so tasks that wait for one another in turn all end, by as
// many steps as they have, and it is never stuck; those that wait in a ring are stuck, and it is told.
func TestItEnds(t *testing.T) {
	r := rand.New(rand.NewSource(73))
	numbers := []func() int{
		func() int { return 0 }, func() int { return -1 }, func() int { return math.MinInt }, func() int { return math.MaxInt },
		func() int { return int(r.Uint64()) }, func() int { return r.Intn(3) - 1 },
	}
	for _, n := range []int{1, 2, 3, 17, 64} {
		for _, number := range numbers {
			s := led(t, slices.Repeat([]api.Task{ready(0)}, n)...)
			count := drive(t, s, n, 5, func(k int) int { return k - 1 }, number)
			if s.Stuck() || count < 6*n || count > 7*n {
				t.Fatalf("%d tasks in a line: %d steps, Stuck %v", n, count, s.Stuck())
			}
			stands(t, s, slices.Repeat([]api.Task{done(5)}, n))
			s = led(t, slices.Repeat([]api.Task{ready(0)}, n)...)
			count = drive(t, s, n, 5, func(k int) int { return (k + 1) % n }, number)
			if !s.Stuck() || count != 6*n {
				t.Fatalf("%d tasks in a ring: %d steps, Stuck %v", n, count, s.Stuck())
			}
			free(t, s, 0, n-1)
			if s.Stuck() || s.Pick(number()) != n-1 {
				t.Fatal("one is freed, and it is stuck still")
			}
		}
	}
}
