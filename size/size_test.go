package size_test

import (
	"math"
	"math/big"
	"math/rand"
	"slices"
	"testing"

	"lavabo/api"
	"lavabo/core"
	"lavabo/give"
	"lavabo/size"
)

// edges are numbers where something begins or ends, or where a narrower kind of number would wrap round.
var edges = []int{math.MinInt, math.MinInt + 1, -1<<32 - 1, -1 << 32, -1<<32 + 1, math.MinInt32, -256, -252, -128, -33, -32, -5, -4, -3, -2, -1, 0, 1, 2, 3, 4, 5, 6, 7, 8, 15, 16, 17, 30, 31, 32, 33, 34, 64, 127, 128, 129, 132, 255, 256, 257, 260, 288, 1 << 16, 1<<16 + 4, math.MaxInt32, 1<<32 - 1, 1 << 32, 1<<32 + 1, 1<<32 + 4, 1<<32 + 32, math.MaxInt - 1, math.MaxInt}

// list is a list written short.
func list(l ...int) []int { return l }

// share asks Share, and holds what it answers against want.
func share(t *testing.T, n, shards int, want []int) {
	t.Helper()
	for range 2 {
		got := size.Share(n, shards)
		if !slices.Equal(got, want) {
			t.Fatalf("Share(%d, %d) = %v, want %v", n, shards, got, want)
		}
		clear(got) // what is answered is the caller's own
	}
}

// steps asks Steps likewise; what was handed in stays as it was.
func steps(t *testing.T, have []int, n int, want []int) {
	t.Helper()
	was := slices.Clone(have)
	for range 2 {
		got := size.Steps(have, n)
		if !slices.Equal(got, want) {
			t.Fatalf("Steps(%v, %d) = %v, want %v", was, n, got, want)
		}
		for k := range got {
			got[k] += 1000
		}
		if !slices.Equal(have, was) {
			t.Fatalf("Steps(%v, %d) changed them: %v", was, n, have)
		}
	}
}

// next asks Next likewise.
func next(t *testing.T, have []int, n, shard, by int) {
	t.Helper()
	was := slices.Clone(have)
	for range 2 {
		if s, b := size.Next(have, n); s != shard || b != by {
			t.Fatalf("Next(%v, %d) = %d, %d, want %d, %d", was, n, s, b, shard, by)
		}
		if !slices.Equal(have, was) {
			t.Fatalf("Next(%v, %d) changed them: %v", was, n, have)
		}
	}
}

// plainShare is Share told anew: the frames are dealt out, one by one.
func plainShare(n, shards int) []int {
	var l []int
	if shards < 1 || shards > 4 || n < 0 || n > 32 {
		return nil
	}
	for range shards {
		l = append(l, 0)
	}
	for k := range n {
		l[k%shards]++
	}
	return l
}

// plainSteps is Steps told anew.
func plainSteps(have []int, n int) []int {
	var l []int
	for _, x := range have {
		if x < 0 {
			return nil
		}
	}
	for k, x := range plainShare(n, len(have)) {
		l = append(l, x-have[k])
	}
	return l
}

// plainNext is Next told anew, with sums as great as they come.
func plainNext(have []int, n int) (int, int) {
	l, sum := plainSteps(have, n), new(big.Int)
	if len(l) == 0 {
		return -1, 0
	}
	for _, x := range have {
		sum.Add(sum, big.NewInt(int64(x)))
	}
	way := big.NewInt(int64(n)).Cmp(sum)
	for k, x := range l {
		if way > 0 && x > 0 {
			return k, 1
		}
		if way < 0 && x < 0 {
			return k, -1
		}
	}
	return -1, 0
}

// plain holds Steps and Next against the plain ones.
func plain(t *testing.T, have []int, n int) {
	t.Helper()
	steps(t, have, n, plainSteps(have, n))
	shard, by := plainNext(have, n)
	next(t, have, n, shard, by)
}

// The document's example.
func TestExample(t *testing.T) {
	share(t, 5, 2, list(3, 2))
}

// 18.1: Share by hand.
func TestShare(t *testing.T) {
	for _, x := range []struct {
		n, shards int
		want      []int
	}{
		{0, 1, list(0)}, {1, 1, list(1)}, {31, 1, list(31)}, {32, 1, list(32)},
		{0, 2, list(0, 0)}, {1, 2, list(1, 0)}, {2, 2, list(1, 1)}, {3, 2, list(2, 1)}, {31, 2, list(16, 15)}, {32, 2, list(16, 16)},
		{0, 3, list(0, 0, 0)}, {1, 3, list(1, 0, 0)}, {2, 3, list(1, 1, 0)}, {3, 3, list(1, 1, 1)}, {4, 3, list(2, 1, 1)}, {5, 3, list(2, 2, 1)}, {31, 3, list(11, 10, 10)}, {32, 3, list(11, 11, 10)},
		{0, 4, list(0, 0, 0, 0)}, {1, 4, list(1, 0, 0, 0)}, {2, 4, list(1, 1, 0, 0)}, {3, 4, list(1, 1, 1, 0)}, {4, 4, list(1, 1, 1, 1)}, {7, 4, list(2, 2, 2, 1)}, {29, 4, list(8, 7, 7, 7)}, {30, 4, list(8, 8, 7, 7)}, {31, 4, list(8, 8, 8, 7)}, {32, 4, list(8, 8, 8, 8)},
	} {
		share(t, x.n, x.shards, x.want)
	}
}

// 18.1: Share of all numbers that may be, and of numbers next to them and far from them: all frames are shared out, and nobody has two more than another, or more than one ahead of it.
func TestShareAll(t *testing.T) {
	for n := -3; n <= 35; n++ {
		for shards := -3; shards <= 7; shards++ {
			l := plainShare(n, shards)
			share(t, n, shards, l)
			sum := 0
			for k, x := range l {
				if sum += x; k > 0 && (x > l[k-1] || x < l[0]-1) {
					t.Fatal(n, shards, l)
				}
			}
			if len(l) > 0 && sum != n {
				t.Fatal(n, shards, l)
			}
		}
	}
	for _, n := range edges {
		for _, shards := range edges {
			share(t, n, shards, plainShare(n, shards))
		}
	}
}

// 18.1: nothing, unless there are 1 to 4 shards and 0 to 32 frames.
func TestShareOfNone(t *testing.T) {
	for _, x := range edges {
		if x < 1 || x > api.MaxShards {
			share(t, 0, x, nil)
			share(t, 5, x, nil)
			share(t, 32, x, nil)
		}
		if x < 0 || x > api.MaxFrames {
			for shards := range 6 {
				share(t, x, shards, nil)
			}
		}
	}
}

// 18.1: Steps by hand: more, less, as it is.
func TestSteps(t *testing.T) {
	for _, x := range []struct {
		have []int
		n    int
		want []int
	}{
		{list(0), 0, list(0)}, {list(0), 32, list(32)}, {list(32), 0, list(-32)}, {list(7), 9, list(2)}, {list(9), 7, list(-2)}, {list(100), 7, list(-93)},
		{list(3, 2), 5, list(0, 0)}, {list(2, 3), 5, list(1, -1)}, {list(0, 0), 5, list(3, 2)}, {list(5, 0), 5, list(-2, 2)}, {list(3, 2), 0, list(-3, -2)}, {list(3, 2), 32, list(13, 14)},
		{list(0, 9, 1), 8, list(3, -6, 1)}, {list(3, 3, 2), 8, list(0, 0, 0)}, {list(2, 3, 3), 8, list(1, 0, -1)},
		{list(1, 1, 1, 1), 4, list(0, 0, 0, 0)}, {list(1, 1, 1, 1), 5, list(1, 0, 0, 0)}, {list(2, 1, 1, 1), 4, list(-1, 0, 0, 0)}, {list(8, 8, 8, 8), 31, list(0, 0, 0, -1)}, {list(4, 0, 2, 1), 7, list(-2, 2, 0, 0)},
	} {
		steps(t, x.have, x.n, x.want)
	}
}

// 18.1: Next by hand: the first that lacks one, the first that has too many, nobody.
func TestNext(t *testing.T) {
	for _, x := range []struct {
		have         []int
		n, shard, by int
	}{
		// too few together: the first that lacks one
		{list(0), 1, 0, 1}, {list(31), 32, 0, 1}, {list(0, 0), 1, 0, 1}, {list(0, 0), 5, 0, 1}, {list(2, 2), 5, 0, 1}, {list(3, 1), 5, 1, 1}, {list(1, 1, 0), 3, 2, 1}, {list(1, 0, 0), 3, 1, 1}, {list(8, 8, 8, 7), 32, 3, 1}, {list(8, 8, 7, 7), 32, 2, 1}, {list(0, 1), 2, 0, 1},
		// one that has too many, ahead or behind, stays as it is meanwhile
		{list(4, 0), 5, 1, 1}, {list(0, 4), 5, 0, 1}, {list(9, 0, 0), 10, 1, 1}, {list(9, 3, 0), 13, 1, 1}, {list(6, 5, 0), 14, 2, 1}, {list(5, 2, 0, 9), 17, 1, 1}, {list(20, 1, 1, 1), 24, 1, 1}, {list(20, 6, 1, 1), 29, 1, 1}, {list(20, 8, 1, 1), 31, 2, 1},
		// too many together: the first that has too many
		{list(1), 0, 0, -1}, {list(33), 32, 0, -1}, {list(1, 1), 0, 0, -1}, {list(0, 1), 0, 1, -1}, {list(4, 2), 5, 0, -1}, {list(3, 3), 5, 1, -1}, {list(1, 1, 2), 3, 2, -1}, {list(8, 8, 8, 8), 31, 3, -1}, {list(8, 8, 8, 8), 30, 2, -1}, {list(8, 8, 8, 8), 28, 0, -1},
		// one that lacks some, ahead or behind, stays as it is meanwhile
		{list(0, 9), 5, 1, -1}, {list(9, 0), 5, 0, -1}, {list(0, 0, 9, 9), 4, 2, -1}, {list(0, 1, 1, 9), 4, 3, -1}, {list(0, 2, 2, 2), 4, 1, -1}, {list(3, 0, 5), 6, 0, -1}, {list(2, 0, 5), 6, 2, -1},
		// as many as there are to be, some with too many: frames go over
		{list(1, 4), 5, -1, 0}, {list(5, 0), 5, -1, 0}, {list(2, 3), 5, -1, 0}, {list(0, 0, 0, 4), 4, -1, 0}, {list(2, 0, 1, 1), 4, -1, 0}, {list(0, 32), 32, -1, 0}, {list(0, 1), 1, -1, 0},
		// all is right
		{list(0), 0, -1, 0}, {list(32), 32, -1, 0}, {list(0, 0, 0, 0), 0, -1, 0}, {list(1, 0, 0, 0), 1, -1, 0}, {list(3, 2), 5, -1, 0}, {list(11, 11, 10), 32, -1, 0}, {list(8, 8, 8, 8), 32, -1, 0},
	} {
		next(t, x.have, x.n, x.shard, x.by)
	}
}

// lists are all lists of that length of the numbers least to most.
func lists(length, least, most int) [][]int {
	all := [][]int{{}}
	for range length {
		var longer [][]int
		for _, l := range all {
			for n := least; n <= most; n++ {
				longer = append(longer, append(slices.Clone(l), n))
			}
		}
		all = longer
	}
	return all
}

// 18.1: all lists of up to five shards of few frames, and as many together as there may be or not, beside the plain ones.
func TestAllLists(t *testing.T) {
	for shards, most := range list(0, 34, 18, 8, 4, 1) {
		for _, have := range lists(shards, -1, most) {
			for n := -2; n <= min(34, 4*most+2); n++ {
				plain(t, have, n)
			}
		}
	}
}

// 18.1: any counts, up to the greatest, with a few below 0, beside the plain ones.
func TestByChance(t *testing.T) {
	c := rand.New(rand.NewSource(180))
	for range 200_000 {
		var have []int
		for range 1 + c.Intn(4) {
			x := c.Intn(20)
			if c.Intn(4) == 0 {
				x = edges[c.Intn(len(edges))]
				if c.Intn(8) > 0 && x < 0 {
					x = -(x + 1)
				}
			}
			have = append(have, x)
		}
		n := c.Intn(33)
		if c.Intn(16) == 0 {
			n = edges[c.Intn(len(edges))]
		}
		plain(t, have, n)
	}
}

// 18.1: counts so great that their sum is no int, at every place: there are too many all the same.
func TestGreatCounts(t *testing.T) {
	const m = math.MaxInt
	great := list(0, 1, 8, 32, m/4, m/4+1, m/4+2, m/3, m/3+1, m/2, m/2+1, m/2+2, m-32, m-1, m)
	for shards := 1; shards <= 4; shards++ {
		for _, places := range lists(shards, 0, len(great)-1) {
			have := make([]int, shards)
			for k, p := range places {
				have[k] = great[p]
			}
			for _, n := range list(0, 1, 31, 32) {
				plain(t, have, n)
			}
		}
	}
	steps(t, list(m, m), 4, list(2-m, 2-m))
	next(t, list(m, m), 4, 0, -1)
	next(t, list(2, m), 4, 1, -1)
	next(t, list(1<<62, 1<<62, 1<<62, 1<<62), 0, 0, -1) // 0, if their sum were an int
	next(t, list(0, 1<<62, 1<<62, 1<<63-1), 32, 1, -1)
	next(t, list(0, m, m, 2), 8, 1, -1) // 0 likewise
	next(t, list(0, m, m, 3), 32, 1, -1)
}

// 18.1: nothing, and -1, 0, of no such count of shards.
func TestOfOtherLengths(t *testing.T) {
	for _, n := range edges {
		steps(t, nil, n, nil)
		next(t, nil, n, -1, 0)
		steps(t, []int{}, n, nil)
		next(t, []int{}, n, -1, 0)
		for shards := 5; shards < 10; shards++ {
			for _, have := range list(0, 1, 6, 40) {
				steps(t, slices.Repeat(list(have), shards), n, nil)
				next(t, slices.Repeat(list(have), shards), n, -1, 0)
			}
		}
	}
	for _, length := range list(256, 257, 260, 1<<16, 1<<16+4) {
		steps(t, slices.Repeat(list(1), length), 8, nil)
		next(t, slices.Repeat(list(1), length), 8, -1, 0)
		next(t, make([]int, length), 8, -1, 0)
	}
}

// 18.1: nothing, and -1, 0, of no such count of frames, whether too few are there or too many.
func TestOfOtherFrames(t *testing.T) {
	for _, n := range edges {
		if n >= 0 && n <= api.MaxFrames {
			continue
		}
		for shards := 1; shards <= 4; shards++ {
			for _, have := range list(0, 1, 8, 33, 1<<32, math.MaxInt) {
				steps(t, slices.Repeat(list(have), shards), n, nil)
				next(t, slices.Repeat(list(have), shards), n, -1, 0)
			}
		}
	}
}

// 18.1: nothing, and -1, 0, of a number below 0, at whichever place, whatever the others have.
func TestOfNumbersBelowZero(t *testing.T) {
	for shards := 1; shards <= 4; shards++ {
		for at := range shards {
			for _, x := range edges {
				for _, other := range list(0, 2, 9, math.MaxInt) {
					have := slices.Repeat(list(other), shards)
					have[at] = x
					for _, n := range list(0, 1, 7, 32) {
						if x >= 0 {
							plain(t, have, n)
							continue
						}
						steps(t, have, n, nil)
						next(t, have, n, -1, 0)
					}
				}
			}
		}
	}
}

// What is answered is memory of its own: not that of what was handed in, nor of what is answered next.
func TestAnswersAreTheCallersOwn(t *testing.T) {
	for shards := 1; shards <= 4; shards++ {
		a, b := size.Share(13, shards), size.Share(13, shards)
		_ = append(a, 91, 92, 93)
		for k := range a {
			a[k] = 71
		}
		if !slices.Equal(b, plainShare(13, shards)) {
			t.Fatal(b)
		}
		have := make([]int, shards, shards+4)
		for _, n := range list(0, 13) {
			a, b := size.Steps(have, n), size.Steps(have, n)
			_ = append(a, 91, 92, 93)
			for k := range a {
				a[k] = 71
			}
			if !slices.Equal(b, plainShare(n, shards)) || !slices.Equal(have[:shards+4], make([]int, shards+4)) {
				t.Fatal(b, have[:shards+4])
			}
		}
	}
}

// missing is how many frames shards lack by these steps, and how many they have too many.
func missing(l []int) (lack, over int) {
	for _, x := range l {
		lack += max(x, 0)
		over += max(-x, 0)
	}
	return lack, over
}

// 18.2: who does as Next says, again and again, and has frames go over then, comes to the very share, by no more steps than there are frames to come and to go: nobody gets a frame that it does not lack, or gives one that it is to have.
func TestItComesToTheShare(t *testing.T) {
	c := rand.New(rand.NewSource(181))
	for range 20_000 {
		have, n := make([]int, 1+c.Intn(4)), c.Intn(33)
		sum := 0
		for k := range have {
			have[k] = c.Intn(1 + c.Intn(17))
			sum += have[k]
		}
		lack, over := missing(size.Steps(have, n))
		left := max(lack, over)
		for {
			l := size.Steps(have, n)
			shard, by := size.Next(have, n)
			if by == 0 {
				break
			}
			if l[shard]*by <= 0 || by != 1 && by != -1 || (n-sum)*by <= 0 {
				t.Fatal(have, n, shard, by)
			}
			have[shard] += by
			sum += by
			left--
		}
		if sum != n {
			t.Fatal(have, n)
		}
		for need := slices.IndexFunc(size.Steps(have, n), lacks); need >= 0; need = slices.IndexFunc(size.Steps(have, n), lacks) {
			spare := size.Steps(have, n)
			for k := range spare {
				spare[k] = max(-spare[k], 0)
			}
			giver := give.From(spare, make([]int, len(have)), need)
			if giver == -1 {
				t.Fatal("one lacks what nobody has", have, n)
			}
			have[giver]--
			have[need]++
			left--
			next(t, have, n, -1, 0)
		}
		if left != 0 || !slices.Equal(have, plainShare(n, len(have))) {
			t.Fatal(have, n, left)
		}
	}
}

func lacks(step int) bool { return step > 0 }

// works is some cores at work: pages with pins, and how many frames there are to be.
type works struct {
	cores []*core.Core
	pins  map[int]int
	n     int
}

// have is of each core how many frames it has.
func (w works) have() []int {
	l := make([]int, len(w.cores))
	for s, c := range w.cores {
		for _, f := range c.Arena().Frames() {
			if f.State != api.FRetired {
				l[s]++
			}
		}
	}
	return l
}

// retire has a core give up a frame: false, if all of them are pinned.
func (w works) retire(shard int) bool {
	a := w.cores[shard].Arena()
	if a.Free() == 0 {
		a.Drop(slices.IndexFunc(a.Frames(), func(f api.Frame) bool { return f.State == api.FUsed && f.Pins == 0 }))
	}
	return a.Retire() >= 0
}

// grow does as Next says, once: false, if there is nothing to do by it, or not now.
func (w works) grow() bool {
	switch shard, by := size.Next(w.have(), w.n); by {
	case 1:
		return w.cores[shard].Arena().Add() >= 0
	case -1:
		return w.retire(shard)
	}
	return false
}

// over has one frame go over from a core that has too many to one that lacks one.
func (w works) over() bool {
	l := size.Steps(w.have(), w.n)
	need, giver := slices.IndexFunc(l, lacks), slices.IndexFunc(l, func(step int) bool { return step < 0 })
	return need >= 0 && giver >= 0 && w.retire(giver) && w.cores[need].Arena().Add() >= 0
}

// call pins a page, or lets one go.
func (w works) call(page int, pin bool) {
	c := w.cores[page%len(w.cores)]
	switch {
	case pin && c.Hit(page) >= 0:
		w.pins[page]++
	case pin:
		if code, _, _ := c.Room(page); code == api.OK {
			w.pins[page]++
		}
	case w.pins[page] > 0:
		c.Let(c.Arena().Find(page))
		w.pins[page]--
	}
}

// stay is whether each page that is pinned is in a frame with its pins.
func (w works) stay() bool {
	for page, n := range w.pins {
		a := w.cores[page%len(w.cores)].Arena()
		if n > 0 && (a.Find(page) < 0 || a.Frames()[a.Find(page)].Pins != n) {
			return false
		}
	}
	return true
}

// 18.2, T4: cores grow and shrink as Next says while pages come and go in them: what is pinned stays; as soon as pins are let go, they come to as many frames as there are to be, and to the share.
func TestItGrowsAndShrinksWhileItWorks(t *testing.T) {
	c := rand.New(rand.NewSource(182))
	waited, grew, went := 0, 0, 0
	for range 400 {
		w := works{pins: map[int]int{}}
		for range 1 + c.Intn(4) {
			w.cores = append(w.cores, core.New(c.Intn(6)))
		}
		for range 8 {
			w.n = c.Intn(12)
			for range c.Intn(40) {
				w.call(c.Intn(16), c.Intn(3) > 0)
				switch was := w.have(); {
				case w.grow():
					grew++
				case slices.Equal(was, size.Share(w.n, len(w.cores))):
				case w.over():
					went++
				default:
					waited++ // somebody has pinned all that is to go
				}
				if !w.stay() {
					t.Fatal("a page that was pinned is gone")
				}
			}
			if c.Intn(2) == 0 {
				continue // there are to be more, or less, ahead of the end
			}
			for page, n := range w.pins {
				for range n {
					w.call(page, false)
				}
			}
			for left := 100; !slices.Equal(w.have(), size.Share(w.n, len(w.cores))); left-- {
				if !w.grow() && !w.over() || left == 0 {
					t.Fatal("it does not end", w.have(), w.n)
				}
			}
			next(t, w.have(), w.n, -1, 0)
		}
	}
	if waited == 0 || grew == 0 || went == 0 {
		t.Fatal("nothing was tried", waited, grew, went)
	}
}
