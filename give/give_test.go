package give_test

import (
	"math"
	"math/rand"
	"slices"
	"testing"

	"lavabo/api"
	"lavabo/core"
	"lavabo/give"
	"lavabo/model"
	"lavabo/ref"
)

// nothings are numbers of no shard and of no count of shards: next to the edges, and where a narrower kind of number would wrap round.
var nothings = []int{-1, -2, -3, -4, -5, -256, 5, 6, 8, 32, 127, 128, 255, 256, 257, 260, 1024, 1 << 16, 1<<32 - 1, 1 << 32, 1<<32 + 1, 1<<32 + 4, -1 << 32, -1<<32 + 1, math.MaxInt32, math.MinInt32, math.MaxInt - 1, math.MaxInt, math.MinInt, math.MinInt + 1}

// below are numbers below 0.
var below = []int{-1, -2, -4, -128, -255, -1 << 16, math.MinInt32, -1 << 32, -1<<32 + 1, math.MinInt + 1, math.MinInt}

// states are all states of a frame, and some that are none.
var states = []int{api.FFree, api.FUsed, api.FBusy, api.FMoving, api.FRetired, -1, 5, 256, 257, 1 << 32, 1<<32 + 1, math.MaxInt, math.MinInt}

// list is a list written short.
func list(l ...int) []int { return l }

// from asks From, and holds what it answers against want; what was handed in stays as it was.
func from(t *testing.T, free, idle []int, need, want int) {
	t.Helper()
	f, i := slices.Clone(free), slices.Clone(idle)
	for range 2 {
		if got := give.From(free, idle, need); got != want {
			t.Fatalf("From(%v, %v, %d) = %d, want %d", f, i, need, got, want)
		}
		if !slices.Equal(f, free) || !slices.Equal(i, idle) {
			t.Fatalf("From(%v, %v, %d) changed them: %v, %v", f, i, need, free, idle)
		}
	}
}

// idle asks Idle likewise.
func idle(t *testing.T, l []api.Frame, shards int, free, idle []int) {
	t.Helper()
	was := slices.Clone(l)
	for range 2 {
		f, i := give.Idle(l, shards)
		if !slices.Equal(f, free) || !slices.Equal(i, idle) {
			t.Fatalf("Idle(%v, %d) = %v, %v, want %v, %v", was, shards, f, i, free, idle)
		}
		if !slices.Equal(l, was) {
			t.Fatalf("Idle(%v, %d) changed them: %v", was, shards, l)
		}
		clear(f) // what is answered is the caller's own
		clear(i)
	}
}

// full asks Full likewise.
func full(t *testing.T, l []api.Frame, want bool) {
	t.Helper()
	was := slices.Clone(l)
	for range 2 {
		if got := give.Full(l); got != want {
			t.Fatalf("Full(%v) = %v, want %v", was, got, want)
		}
		if !slices.Equal(l, was) {
			t.Fatalf("Full(%v) changed them: %v", was, l)
		}
	}
}

// plainFrom is From told anew from 17.1's words: the places but need, those with the most ahead, and of these the first ones.
func plainFrom(free, idle []int, need int) int {
	shards := len(free)
	if shards < 1 || shards > 4 || len(idle) != shards || need < 0 || need > shards-1 {
		return -1
	}
	for _, n := range slices.Concat(free, idle) {
		if n < 0 {
			return -1
		}
	}
	for _, have := range [][]int{free, idle} {
		best, place := 0, -1
		for back := range have {
			if k := shards - 1 - back; k != need && have[k] > 0 && have[k] >= best {
				best, place = have[k], k
			}
		}
		if place >= 0 {
			return place
		}
	}
	return -1
}

// plainIdle is Idle told anew: the frames of each shard by themselves.
func plainIdle(l []api.Frame, shards int) ([]int, []int) {
	var free, idle []int
	if shards < 1 || shards > 4 {
		return nil, nil
	}
	for s := range shards {
		f, i := 0, 0
		for _, x := range l {
			if x.Shard == s && x.State == api.FFree {
				f++
			}
			if x.Shard == s && x.State == api.FUsed && x.Pins == 0 {
				i++
			}
		}
		free, idle = append(free, f), append(idle, i)
	}
	return free, idle
}

// plainFull is Full told anew.
func plainFull(l []api.Frame) bool {
	for _, x := range l {
		if x.State == api.FFree || x.State == api.FUsed && x.Pins == 0 {
			return false
		}
	}
	return true
}

// The document's example.
func TestExample(t *testing.T) {
	from(t, list(0, 2), list(1, 1), 0, 1)
}

// 17.1: From by hand: the most free, the first of these; the most idle, the first of these; -1.
func TestFrom(t *testing.T) {
	for _, x := range []struct {
		free, idle []int
		need, want int
	}{
		// one shard is never helped
		{list(0), list(0), 0, -1}, {list(7), list(7), 0, -1},
		// the most free, whoever has most idle
		{list(0, 1), list(0, 0), 0, 1}, {list(1, 0), list(0, 0), 1, 0}, {list(1, 2, 3), list(9, 8, 7), 0, 2}, {list(1, 2, 3), list(9, 8, 7), 2, 1}, {list(3, 2, 1), list(7, 8, 9), 0, 1}, {list(3, 2, 1), list(7, 8, 9), 1, 0}, {list(0, 0, 1, 0), list(9, 9, 0, 9), 0, 2},
		{list(2, 4, 8, 16), list(0, 0, 0, 0), 3, 2}, {list(2, 4, 8, 16), list(0, 0, 0, 0), 2, 3}, {list(9, 10, 9, 10), list(0, 0, 0, 0), 1, 3},
		// the first of these
		{list(5, 5), list(1, 1), 0, 1}, {list(5, 5), list(1, 1), 1, 0}, {list(5, 5, 5, 5), list(0, 1, 2, 3), 0, 1}, {list(5, 5, 5, 5), list(3, 2, 1, 0), 1, 0}, {list(1, 5, 5, 5), list(0, 0, 0, 0), 1, 2}, {list(1, 5, 2, 5), list(0, 0, 0, 0), 0, 1}, {list(5, 1, 1, 5), list(0, 0, 0, 0), 0, 3},
		// need's own do not count, however many
		{list(9, 1), list(0, 0), 0, 1}, {list(1, 9), list(0, 0), 1, 0}, {list(9, 1, 2), list(9, 3, 0), 0, 2}, {list(9, 0, 0), list(9, 1, 2), 0, 2}, {list(0, 9, 0), list(0, 9, 0), 1, -1}, {list(9, 0, 0, 0), list(9, 0, 0, 0), 0, -1},
		// nobody but need has free ones: the most idle, the first of these
		{list(0, 0), list(0, 1), 0, 1}, {list(0, 0), list(1, 0), 1, 0}, {list(0, 0, 0), list(1, 2, 3), 2, 1}, {list(0, 0, 0), list(3, 2, 3), 1, 0}, {list(0, 0, 0, 0), list(4, 4, 4, 4), 0, 1}, {list(0, 0, 0, 0), list(4, 4, 4, 4), 3, 0}, {list(0, 3, 0, 0), list(1, 9, 1, 2), 1, 3},
		// none at all
		{list(0, 0), list(0, 0), 0, -1}, {list(0, 0), list(0, 0), 1, -1}, {list(0, 0), list(0, 5), 1, -1}, {list(0, 0, 0, 0), list(0, 0, 0, 0), 2, -1}, {list(0, 0, 0, 0), list(0, 0, 7, 0), 2, -1},
	} {
		from(t, x.free, x.idle, x.need, x.want)
	}
}

// lists are all lists of that length of the numbers least to most.
func lists(length, least, most int) [][]int {
	all := [][]int{{}}
	for range length {
		var longer [][]int
		for _, l := range all {
			for n := least; n <= most; n++ {
				longer = append(longer, append(slices.Clone(l), n))
			}
		}
		all = longer
	}
	return all
}

// 17.1: From of all lists of one to four shards of few frames, each shard and next to them, beside the plain one.
func TestFromAll(t *testing.T) {
	for shards, most := range list(0, 4, 4, 3, 2) {
		for _, free := range lists(shards, -1, most) {
			for _, idle := range lists(shards, -1, most) {
				for need := -1; need <= shards; need++ {
					if got, want := give.From(free, idle, need), plainFrom(free, idle, need); got != want {
						t.Fatalf("From(%v, %v, %d) = %d, want %d", free, idle, need, got, want)
					}
				}
			}
		}
	}
}

// 17.1: From of any counts, up to the greatest, beside the plain one.
func TestFromByChance(t *testing.T) {
	c := rand.New(rand.NewSource(170))
	great := list(0, 0, 0, 1, 2, 31, 32, 33, 127, 128, 255, 256, 1<<31-1, 1<<31, 1<<32, 1<<32+1, math.MaxInt-1, math.MaxInt)
	for range 200_000 {
		shards := 1 + c.Intn(4)
		var free, idle []int
		for range shards {
			free = append(free, great[c.Intn(len(great))]*c.Intn(2))
			idle = append(idle, great[c.Intn(len(great))])
		}
		need := c.Intn(shards)
		from(t, free, idle, need, plainFrom(free, idle, need))
	}
}

// 17.1: From of the greatest counts.
func TestFromOfMany(t *testing.T) {
	const m = math.MaxInt
	from(t, list(0, m-1, m), list(0, 0, 0), 0, 2)
	from(t, list(0, m, m-1), list(0, 0, 0), 0, 1)
	from(t, list(m, m, m, m), list(m, m, m, m), 0, 1)
	from(t, list(m, m, m, m), list(m, m, m, m), 3, 0)
	from(t, list(m, 0, 0, 1), list(m, m, m, 0), 0, 3)
	from(t, list(m, 0, 0, 0), list(m, 1, m, m-1), 0, 2)
	from(t, list(0, 1<<32, 1), list(0, 0, 0), 0, 1)
	from(t, list(0, 1<<32, 0), list(0, 0, 9), 0, 1)
	from(t, list(0, 0, 0), list(0, 1<<32, 1), 0, 1)
	from(t, list(0, 0, 0), list(0, 255, 256), 0, 2)
}

// 17.1: -1 of lists of no length that may be, or of two lengths, whatever they have.
func TestFromOfOtherLengths(t *testing.T) {
	for free := range 8 {
		for idle := range 8 {
			for need := -1; need < 8; need++ {
				want := -1
				if free == idle && free >= 2 && free <= 4 && need >= 0 && need < free {
					want = 0
					if need == 0 {
						want = 1
					}
				}
				from(t, slices.Repeat(list(1), free), slices.Repeat(list(1), idle), need, want)
			}
		}
	}
	from(t, nil, nil, 0, -1)
	from(t, nil, []int{}, 0, -1)
	from(t, nil, list(1, 1), 0, -1)
	from(t, list(1, 1), nil, 0, -1)
	long := slices.Repeat(list(3), 100_000)
	from(t, long, long, 1, -1)
	from(t, long, list(1, 1), 1, -1)
	from(t, list(1, 1), long, 1, -1)
}

// 17.1: -1 unless need is one of the places.
func TestFromOfNoPlace(t *testing.T) {
	for shards := 1; shards <= 4; shards++ {
		for _, need := range append(slices.Clone(nothings), shards, shards+1) {
			if need >= 0 && need < shards {
				continue
			}
			ones := slices.Repeat(list(1), shards)
			from(t, ones, ones, need, -1)
			from(t, make([]int, shards), ones, need, -1)
		}
	}
}

// 17.1: -1 of a number below 0, at whichever place, need's too, in whichever list, though the other one would do.
func TestFromOfNumbersBelowZero(t *testing.T) {
	for shards := 1; shards <= 4; shards++ {
		for at := range shards {
			for need := range shards {
				for _, n := range below {
					for _, have := range []int{0, 1, 5} {
						right, wrong := slices.Repeat(list(have), shards), slices.Repeat(list(have), shards)
						wrong[at] = n
						from(t, wrong, right, need, -1)
						from(t, right, wrong, need, -1)
						from(t, wrong, wrong, need, -1)
					}
				}
			}
		}
	}
}

// 17.1: Idle and Full by hand.
func TestIdle(t *testing.T) {
	l := []api.Frame{
		{State: api.FFree, Page: -1}, {State: api.FFree, Page: -1, Shard: 3}, {State: api.FFree, Page: -1, Shard: 3},
		{State: api.FUsed, Page: 4, Shard: 1}, {State: api.FUsed, Page: 5, Shard: 1, Dirty: true}, {State: api.FUsed, Page: 6, Shard: 1, Pins: 1}, {State: api.FUsed, Page: 7, Shard: 3},
		{State: api.FBusy, Page: 8, Shard: 0}, {State: api.FMoving, Page: 9, Shard: 1}, {State: api.FRetired, Page: -1, Shard: 2},
	}
	idle(t, l, 4, list(1, 0, 0, 2), list(0, 2, 0, 1))
	idle(t, l, 3, list(1, 0, 0), list(0, 2, 0))
	idle(t, l, 2, list(1, 0), list(0, 2))
	idle(t, l, 1, list(1), list(0))
	full(t, l, false)
	full(t, l[1:4], false)
	full(t, l[3:7], false)
	full(t, l[5:6], true)
	full(t, l[7:], true)
}

// 17.1: of no frames each shard has none, and it is full.
func TestOfNoFrames(t *testing.T) {
	for _, l := range [][]api.Frame{nil, {}} {
		for shards := 1; shards <= 4; shards++ {
			idle(t, l, shards, make([]int, shards), make([]int, shards))
		}
		full(t, l, true)
	}
}

// 17.1: Idle is nothing, unless there are 1 to 4 shards.
func TestIdleOfOtherShards(t *testing.T) {
	some := []api.Frame{{}, {Shard: 1}, {State: api.FUsed, Shard: 2}, {State: api.FUsed, Shard: 4}, {Shard: 4}, {Shard: -1}}
	for _, l := range [][]api.Frame{nil, some} {
		for _, shards := range append(slices.Clone(nothings), 0) {
			if f, i := give.Idle(l, shards); len(f)+len(i) != 0 {
				t.Errorf("Idle(%v, %d) = %v, %v", l, shards, f, i)
			}
		}
	}
	idle(t, some, 4, list(1, 1, 0, 0), list(0, 0, 1, 0))
}

// 17.1: of every state, with any pins: what counts as free, as idle, as neither. Nothing else of a frame is asked.
func TestEachFrame(t *testing.T) {
	pins := append(slices.Clone(below), 0, 1, 2, 1000, 256, 1<<32, 1<<32+1, math.MaxInt)
	for _, state := range states {
		for _, n := range pins {
			for _, page := range list(-1, 0, 47, 48, math.MaxInt, math.MinInt) {
				for shard := range 4 {
					for _, dirty := range []bool{false, true} {
						l := []api.Frame{{State: state, Page: page, Pins: n, Shard: shard, Dirty: dirty}}
						free, used := make([]int, 4), make([]int, 4)
						switch {
						case state == 0:
							free[shard] = 1
						case state == 1 && n == 0:
							used[shard] = 1
						}
						idle(t, l, 4, free, used)
						full(t, l, free[shard]+used[shard] == 0)
					}
				}
			}
		}
	}
}

// 17.1: a frame of no such shard counts for none, but Full asks all frames.
func TestOfNoShard(t *testing.T) {
	for _, shard := range append(slices.Clone(nothings), 4) {
		l := []api.Frame{{Shard: shard}, {State: api.FUsed, Shard: shard}, {State: api.FUsed, Pins: 1, Shard: 1}}
		for shards := 1; shards <= 4; shards++ {
			idle(t, l, shards, make([]int, shards), make([]int, shards))
		}
		full(t, l, false)
		full(t, l[:1], false)
		full(t, l[1:], false)
		full(t, l[2:], true)
	}
	for shards := 1; shards <= 4; shards++ {
		for shard := range 5 {
			want := make([]int, shards)
			if shard < shards {
				want[shard] = 1
			}
			idle(t, []api.Frame{{Shard: shard}}, shards, want, make([]int, shards))
			idle(t, []api.Frame{{State: api.FUsed, Shard: shard}}, shards, make([]int, shards), want)
		}
	}
}

// 17.1: one frame that is to be had is found wherever it stands among others; retired ones do not count.
func TestFullButOne(t *testing.T) {
	others := []api.Frame{{State: api.FRetired}, {State: api.FUsed, Pins: 1}, {State: api.FBusy}, {State: api.FMoving}, {State: api.FUsed, Pins: 1000}, {State: api.FRetired, Pins: 1}, {State: api.FBusy, Pins: 1}}
	for length := range 40 {
		var l []api.Frame
		for k := range length {
			l = append(l, others[k%len(others)])
		}
		full(t, l, true)
		idle(t, l, 1, list(0), list(0))
		for at := range l {
			was := l[at]
			l[at] = api.Frame{}
			full(t, l, false)
			idle(t, l, 1, list(1), list(0))
			l[at] = api.Frame{State: api.FUsed}
			full(t, l, false)
			idle(t, l, 1, list(0), list(1))
			l[at] = was
		}
	}
}

// frame is a frame by chance.
func frame(c *rand.Rand) api.Frame {
	return api.Frame{State: c.Intn(6), Page: c.Intn(48), Pins: max(0, c.Intn(4)-1), Shard: c.Intn(6) - 1, Dirty: c.Intn(2) == 0}
}

// 17.1: any frames, few and many, beside the plain ones.
func TestFramesByChance(t *testing.T) {
	c := rand.New(rand.NewSource(171))
	for range 20_000 {
		var l []api.Frame
		for range c.Intn(c.Intn(33) + 1) {
			l = append(l, frame(c))
		}
		shards := c.Intn(7) - 1
		free, used := plainIdle(l, shards)
		idle(t, l, shards, free, used)
		full(t, l, plainFull(l))
	}
}

// 17.1: many more frames than there may be are counted, too.
func TestOfManyFrames(t *testing.T) {
	var l []api.Frame
	for range 100_000 {
		l = append(l, api.Frame{State: api.FBusy}, api.Frame{Shard: 1}, api.Frame{State: api.FUsed, Shard: 2}, api.Frame{State: api.FUsed, Shard: 2, Pins: 3}, api.Frame{State: api.FUsed, Shard: 2})
	}
	idle(t, l, 4, list(0, 100_000, 0, 0), list(0, 0, 200_000, 0))
	full(t, l, false)
	full(t, slices.Repeat([]api.Frame{{State: api.FRetired}, {State: api.FUsed, Pins: 1}}, 100_000), true)
}

// What Idle answers is memory of its own: neither list grows into the other, nor into what is answered next.
func TestAnswersAreTheCallersOwn(t *testing.T) {
	l := []api.Frame{{}, {Shard: 1}, {State: api.FUsed}, {State: api.FUsed, Shard: 1}}
	for shards := 1; shards <= 4; shards++ {
		free, idle := give.Idle(l, shards)
		wantFree, wantIdle := plainIdle(l, shards)
		_ = append(free, 91, 92, 93, 94, 95)
		_ = append(idle, 81, 82, 83, 84, 85)
		free2, idle2 := give.Idle(l, shards)
		for k := range free {
			free[k] = 71
		}
		if !slices.Equal(idle, wantIdle) || !slices.Equal(free2, wantFree) || !slices.Equal(idle2, wantIdle) {
			t.Fatal(free, idle, free2, idle2)
		}
		for k := range idle {
			idle[k] = 61
		}
		if free[0] != 71 || !slices.Equal(free2, wantFree) || !slices.Equal(idle2, wantIdle) {
			t.Fatal(free, idle, free2, idle2)
		}
	}
}

// 17.1, 17.2: Idle's answer is one that From takes; with all frames of shards that there are, From finds none just where the others have none to be had.
func TestFromOfIdle(t *testing.T) {
	c := rand.New(rand.NewSource(172))
	for range 20_000 {
		shards := 1 + c.Intn(4)
		var l []api.Frame
		for range c.Intn(10) {
			f := frame(c)
			f.Shard = c.Intn(shards)
			l = append(l, f)
		}
		free, idle := give.Idle(l, shards)
		for need := range shards {
			giver := give.From(free, idle, need)
			others := slices.DeleteFunc(slices.Clone(l), func(f api.Frame) bool { return f.Shard == need })
			if none := giver == -1; none != give.Full(others) || giver == need || giver < -1 || giver >= shards {
				t.Fatal(l, shards, need, giver)
			}
			if giver >= 0 && free[giver]+idle[giver] == 0 {
				t.Fatal(l, shards, need, giver)
			}
		}
	}
}

// 17.2: frames go over to a shard that needs them, one by one, till the others have none to give: free ones ahead of idle ones, and of either kind from whoever has most, so that nobody is emptied while another has more.
func TestFramesGoWhereTheyAreNeeded(t *testing.T) {
	c := rand.New(rand.NewSource(173))
	for range 3_000 {
		shards := 2 + c.Intn(3)
		free, idle := make([]int, shards), make([]int, shards)
		for s := range shards {
			free[s], idle[s] = c.Intn(9), c.Intn(9)
		}
		need := c.Intn(shards)
		sum := 0
		for s := range shards {
			sum += free[s] + idle[s]
		}
		sum -= free[need] + idle[need]
		for got := 0; ; got++ {
			giver := give.From(free, idle, need)
			if giver == -1 {
				if got != sum {
					t.Fatal(free, idle, need, got, sum)
				}
				break
			}
			from := free
			if free[giver] == 0 {
				from = idle
			}
			for s := range shards {
				if s != need && (from[s] > from[giver] || from[s] == from[giver] && s < giver || &from[0] == &idle[0] && free[s] > 0) {
					t.Fatal(free, idle, need, giver)
				}
			}
			from[giver]--
		}
	}
}

// pool is some cores that hand frames to one another as give says.
type pool struct{ cores []*core.Core }

// frames is all their frames, each with its shard.
func (p pool) frames() []api.Frame {
	var l []api.Frame
	for s, c := range p.cores {
		for _, f := range c.Arena().Frames() {
			f.Shard = s
			l = append(l, f)
		}
	}
	return l
}

// help has a frame of another shard go over to need: false, if nobody has one.
func (p pool) help(need int) bool {
	free, idle := give.Idle(p.frames(), len(p.cores))
	giver := give.From(free, idle, need)
	if giver == -1 {
		return false
	}
	a := p.cores[giver].Arena()
	if a.Free() == 0 {
		a.Drop(slices.IndexFunc(a.Frames(), func(f api.Frame) bool { return f.State == api.FUsed && f.Pins == 0 }))
	}
	return a.Retire() >= 0 && p.cores[need].Arena().Add() >= 0
}

// bring has a page have a pinned frame of its shard: false, if there is none.
func (p pool) bring(page int) bool {
	s := page % len(p.cores)
	if p.cores[s].Hit(page) >= 0 {
		return true
	}
	for {
		switch code, _, _ := p.cores[s].Room(page); {
		case code == api.OK:
			return true
		case code != api.ErrFull || !p.help(s):
			return false
		}
	}
}

// pinned is of each page that is pinned how often; of one that stands in two frames, -1.
func pinned(l []api.Frame) map[int]int {
	pins, there := map[int]int{}, map[int]bool{}
	for _, f := range l {
		if f.State != api.FUsed {
			continue
		}
		if f.Pins > 0 {
			pins[f.Page] = f.Pins
		}
		if there[f.Page] {
			pins[f.Page] = -1
		}
		there[f.Page] = true
	}
	return pins
}

// T5, 17.2: among cores that hand frames over so, who is told that there is no frame is told it just where Full says so; no page is in two frames, what is pinned stays, no frame is lost.
func TestCoresThatGive(t *testing.T) {
	c := rand.New(rand.NewSource(174))
	fulls, gone := 0, 0
	for range 300 {
		shards := 1 + c.Intn(4)
		p, frames := pool{}, 0
		for range shards {
			n := c.Intn(4)
			p.cores, frames = append(p.cores, core.New(n)), frames+n
		}
		pins := map[int]int{}
		for range 120 {
			page := c.Intn(16)
			was := p.frames()
			if s := page % shards; pins[page] > 0 && c.Intn(3) > 0 {
				p.cores[s].Let(p.cores[s].Arena().Find(page))
				if pins[page]--; pins[page] == 0 {
					delete(pins, page)
				}
			} else if p.bring(page) {
				pins[page]++
				if pins[page] == 1 && give.Full(was) {
					t.Fatal("a frame where there was none", was)
				}
			} else {
				fulls++
				if !give.Full(was) || !give.Full(p.frames()) {
					t.Fatal("no frame where there was one", was)
				}
			}
			now := p.frames()
			if got := pinned(now); len(got) != len(pins) {
				t.Fatal(got, pins)
			}
			for page, n := range pins {
				if pinned(now)[page] != n {
					t.Fatal(pinned(now), pins)
				}
			}
			live := slices.DeleteFunc(slices.Clone(now), func(f api.Frame) bool { return f.State == api.FRetired })
			if len(live) != frames {
				t.Fatal("frames are lost", len(live), frames)
			}
			if len(now) > len(was) {
				gone++
			}
		}
	}
	if fulls == 0 || gone == 0 {
		t.Fatal("nothing was tried", fulls, gone)
	}
}

// T5: the small pool tells ErrFull just where a page has to come in and Full says that there is no frame.
func TestSmallPool(t *testing.T) {
	c := rand.New(rand.NewSource(175))
	fulls := 0
	for range 200 {
		pages, clients, frames := 1+c.Intn(12), 1+c.Intn(4), 1+c.Intn(6)
		r, s := ref.New(pages, clients, frames), model.New(pages, clients)
		for range 60 {
			client, op := c.Intn(clients), api.Op{Kind: []int{api.ONew, api.OFetch, api.OFetch, api.OWrite, api.OUnpin}[c.Intn(5)], Page: c.Intn(pages), Handle: c.Intn(3), Data: []byte("a")}
			was := r.Frames()
			in := slices.ContainsFunc(was, func(f api.Frame) bool { return f.State == api.FUsed && f.Page == op.Page })
			next, res := model.Do(s, client, op)
			comes := res.Code == api.OK && (op.Kind == api.ONew || op.Kind == api.OFetch && !in)
			got := r.Do(client, op).Code
			if want := comes && give.Full(was); (got == api.ErrFull) != want {
				t.Fatal(was, op, got)
			}
			if got == api.ErrFull {
				fulls++
				continue
			}
			s = next
		}
	}
	if fulls == 0 {
		t.Fatal("it was never full")
	}
}
