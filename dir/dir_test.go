package dir_test

import (
	"math"
	"math/big"
	"math/rand"
	"slices"
	"testing"

	"lavabo/api"
	"lavabo/core"
	"lavabo/dir"
)

// edges are numbers where something begins or ends, or where a narrower kind of number would wrap round.
var edges = []int{math.MinInt, math.MinInt + 1, -1<<32 - 1, -1 << 32, -1<<32 + 1, math.MinInt32, -257, -256, -255, -252, -128, -17, -16, -15, -5, -4, -3, -2, -1, 0, 1, 2, 3, 4, 5, 6, 7, 8, 14, 15, 16, 17, 18, 31, 32, 33, 47, 48, 49, 63, 64, 127, 128, 255, 256, 257, 260, 272, 1<<16 - 1, 1 << 16, 1<<16 + 3, 1<<30 - 1, 1 << 30, 1<<30 + 1, math.MaxInt32, 1 << 31, 1<<32 - 1, 1 << 32, 1<<32 + 1, 1<<32 + 2, 1<<32 + 15, 1 << 60, 1 << 62, math.MaxInt/7 - 1, math.MaxInt / 7, math.MaxInt/7 + 1, math.MaxInt - 16, math.MaxInt - 15, math.MaxInt - 1, math.MaxInt}

// list is a list written short.
func list(l ...int) []int { return l }

// same holds two directories against each other, apart from the program.
func same(a, b api.Dir) bool {
	return a.Version == b.Version && a.Bucket == b.Bucket && a.To == b.To && a.Phase == b.Phase && slices.Equal(a.Owner, b.Owner)
}

// copied is a directory that shares nothing with d.
func copied(d api.Dir) api.Dir {
	d.Owner = append([]int(nil), d.Owner...)
	return d
}

// at is a directory in which no bucket moves.
func at(version int, owner ...int) api.Dir {
	return api.Dir{Version: version, Owner: owner, Bucket: -1}
}

// thence is the directory with a bucket that moves.
func thence(d api.Dir, bucket, to, phase int) api.Dir {
	d = copied(d)
	d.Bucket, d.To, d.Phase = bucket, to, phase
	return d
}

// inTurns are the owners of a new directory, by hand.
func inTurns(shards int) []int {
	return [][]int{
		1: list(0, 0, 0, 0, 0, 0, 0, 0, 0, 0, 0, 0, 0, 0, 0, 0),
		2: list(0, 1, 0, 1, 0, 1, 0, 1, 0, 1, 0, 1, 0, 1, 0, 1),
		3: list(0, 1, 2, 0, 1, 2, 0, 1, 2, 0, 1, 2, 0, 1, 2, 0),
		4: list(0, 1, 2, 3, 0, 1, 2, 3, 0, 1, 2, 3, 0, 1, 2, 3),
	}[shards]
}

// call is a call that changes a directory, by its name.
type call struct {
	name       string
	bucket, to int
}

// make makes the call.
func (c call) make(d api.Dir) (api.Dir, int) {
	switch c.name {
	case "Begin":
		return dir.Begin(d, c.bucket, c.to)
	case "Carry":
		return dir.Carry(d)
	case "Switch":
		return dir.Switch(d)
	}
	return dir.Stop(d)
}

// step makes a call twice, and holds what it answers against want; what was handed in stays as it was, and what is answered is the caller's own.
func step(t *testing.T, d api.Dir, c call, want api.Dir, code int) api.Dir {
	t.Helper()
	was, want := copied(d), copied(want)
	for range 2 {
		got, is := c.make(d)
		if is != code || !same(got, want) {
			t.Fatalf("%v of %v = %v, %d, want %v, %d", c, was, got, is, want, code)
		}
		_ = append(got.Owner, 91, 92)
		for k := range got.Owner {
			got.Owner[k] += 1000
		}
		if !same(d, was) {
			t.Fatalf("%v of %v changed it: %v", c, was, d)
		}
	}
	return want
}

// The document's example.
func TestExample(t *testing.T) {
	if b := dir.Bucket(1); b != 7 {
		t.Fatal(b)
	}
}

// 19.1: Bucket of all pages that may be there, by hand: each bucket has three of them.
func TestBucket(t *testing.T) {
	var pages [api.Buckets]int
	for page, want := range list(
		0, 7, 14, 5, 12, 3, 10, 1, 8, 15, 6, 13, 4, 11, 2, 9,
		1, 8, 15, 6, 13, 4, 11, 2, 9, 0, 7, 14, 5, 12, 3, 10,
		2, 9, 0, 7, 14, 5, 12, 3, 10, 1, 8, 15, 6, 13, 4, 11,
	) {
		if b := dir.Bucket(page); b != want {
			t.Fatalf("Bucket(%d) = %d, want %d", page, b, want)
		}
		pages[want]++
	}
	for b, n := range pages {
		if n != 3 {
			t.Fatal(b, n)
		}
	}
}

// plainBucket is Bucket told anew, by numbers as great as they come.
func plainBucket(page int) int {
	if page < 0 {
		return -1
	}
	p := big.NewInt(int64(page))
	sum := new(big.Int).Mul(p, big.NewInt(7))
	sum.Add(sum, new(big.Int).Quo(p, big.NewInt(16)))
	return int(sum.Mod(sum, big.NewInt(16)).Int64())
}

// 19.1: Bucket of any number, and of no page.
func TestBucketOfAnyNumber(t *testing.T) {
	c := rand.New(rand.NewSource(190))
	pages := slices.Clone(edges)
	for n := range 5000 {
		pages = append(pages, n, math.MaxInt-n, math.MaxInt/7+n-2500, math.MaxInt/16+n-2500, c.Int(), int(c.Uint64()), -n-1)
	}
	for _, page := range pages {
		if got, want := dir.Bucket(page), plainBucket(page); got != want {
			t.Fatalf("Bucket(%d) = %d, want %d", page, got, want)
		}
	}
}

// 19.1: New of each number of shards that may be, and the zero directory of others.
func TestNew(t *testing.T) {
	for _, shards := range append(slices.Clone(edges), 9, 10, 11, 12, 13) {
		var want api.Dir
		if shards >= 1 && shards <= 4 {
			want = at(1, inTurns(shards)...)
		}
		for range 2 {
			got := dir.New(shards)
			if !same(got, want) {
				t.Fatalf("New(%d) = %v, want %v", shards, got, want)
			}
			for k := range got.Owner {
				got.Owner[k] = 77 // what is answered is the caller's own
			}
		}
		if len(want.Owner) > 0 && !dir.May(dir.New(shards), shards) || len(want.Owner) == 0 && dir.May(dir.New(shards), 4) {
			t.Fatal(shards)
		}
	}
}

// plainMay is May told anew, word by word.
func plainMay(d api.Dir, shards int) bool {
	is := func(shard int) bool { return 0 <= shard && shard < shards }
	if d.Version < 1 || d.Version > 1<<30 || len(d.Owner) != 16 {
		return false
	}
	for _, o := range d.Owner {
		if !is(o) {
			return false
		}
	}
	if d.Bucket == -1 {
		return d.To == 0 && d.Phase == 0
	}
	for b, o := range d.Owner {
		if b == d.Bucket {
			return is(d.To) && d.To != o && (d.Phase == 1 || d.Phase == 2)
		}
	}
	return false
}

// may holds May against the plain one, of few shards and of any number of them.
func may(t *testing.T, d api.Dir) {
	t.Helper()
	was := copied(d)
	for shards := -1; shards <= 6; shards++ {
		if got := dir.May(d, shards); got != plainMay(d, shards) {
			t.Fatalf("May(%v, %d) = %v", d, shards, got)
		}
	}
	if !same(d, was) {
		t.Fatalf("May of %v changed it: %v", was, d)
	}
}

// bases are directories that may be: new ones, used ones, with buckets that move.
func bases() []api.Dir {
	var all []api.Dir
	used := at(9, 3, 3, 3, 3, 0, 0, 0, 0, 2, 2, 1, 1, 1, 0, 2, 3)
	for _, d := range []api.Dir{at(1, inTurns(1)...), at(2, inTurns(2)...), at(api.MaxSteps-1, inTurns(3)...), at(api.MaxSteps, inTurns(4)...), used} {
		all = append(all, d)
		for k, bucket := range list(0, 6, 7, 15) {
			all = append(all, thence(d, bucket, (d.Owner[bucket]+1+k%3)%4, api.PDrain), thence(d, bucket, (d.Owner[bucket]+3-k%3)%4, api.PCarry))
		}
	}
	return all
}

// altered are directories that have one part other than d has, or another count of owners, or any bucket, shard and phase that moves: some may be, most may not.
func altered(d api.Dir) []api.Dir {
	all := []api.Dir{{}, d, {Version: d.Version, Owner: []int{}, Bucket: -1}}
	with := func(change func(d *api.Dir)) {
		x := copied(d)
		change(&x)
		all = append(all, x)
	}
	for _, x := range edges {
		with(func(d *api.Dir) { d.Version = x })
		with(func(d *api.Dir) { d.Bucket = x })
		with(func(d *api.Dir) { d.To = x })
		with(func(d *api.Dir) { d.Phase = x })
		for bucket := range d.Owner {
			with(func(d *api.Dir) { d.Owner[bucket] = x })
		}
	}
	for n := range 20 {
		with(func(d *api.Dir) { d.Owner = append(d.Owner, 0, 0, 0, 0, 0)[:n] })
	}
	for bucket := -3; bucket < 19; bucket++ {
		for to := -2; to < 7; to++ {
			for phase := -2; phase < 8; phase++ {
				with(func(d *api.Dir) { d.Bucket, d.To, d.Phase = bucket, to, phase })
			}
		}
	}
	with(func(d *api.Dir) { d.Owner = slices.Repeat(d.Owner, 17) })
	with(func(d *api.Dir) { d.Owner = make([]int, 1<<16+16) })
	return all
}

// 19.1: May by hand.
func TestMay(t *testing.T) {
	one, two, three, four := at(1, inTurns(1)...), at(1, inTurns(2)...), at(1, inTurns(3)...), at(1, inTurns(4)...)
	for _, x := range []struct {
		d      api.Dir
		shards []int // of 0 to 5, those with which it may be
	}{
		{one, list(1, 2, 3, 4, 5)}, {two, list(2, 3, 4, 5)}, {three, list(3, 4, 5)}, {four, list(4, 5)},
		{at(api.MaxSteps, inTurns(2)...), list(2, 3, 4, 5)}, {at(api.MaxSteps+1, inTurns(2)...), nil}, {at(0, inTurns(2)...), nil}, {at(-1, inTurns(2)...), nil},
		{at(1, inTurns(2)[:15]...), nil}, {at(1, append(inTurns(2), 0)...), nil}, {at(1), nil}, {api.Dir{}, nil},
		{api.Dir{Version: 1, Owner: inTurns(2)}, nil}, {thence(two, -1, 1, 0), nil}, {thence(two, -1, 0, 1), nil}, {thence(two, -1, 0, 2), nil}, {thence(two, -1, 1, 1), nil}, {thence(two, -1, -1, 0), nil}, {thence(two, -2, 0, 0), nil},
		{thence(two, 0, 1, 1), list(2, 3, 4, 5)}, {thence(two, 0, 1, 2), list(2, 3, 4, 5)}, {thence(two, 15, 0, 1), list(2, 3, 4, 5)}, {thence(two, 15, 2, 2), list(3, 4, 5)}, {thence(two, 15, 3, 2), list(4, 5)}, {thence(one, 8, 1, 1), list(2, 3, 4, 5)},
		{thence(two, 0, 0, 1), nil}, {thence(two, 1, 1, 2), nil}, {thence(two, 0, -1, 1), nil}, {thence(two, 16, 1, 1), nil}, {thence(two, -2, 1, 1), nil},
		{thence(two, 0, 1, 0), nil}, {thence(two, 0, 1, 3), nil}, {thence(two, 0, 1, 4), nil}, {thence(two, 0, 1, 5), nil}, {thence(two, 0, 1, -1), nil}, {thence(two, 3, 0, 0), nil},
	} {
		for shards := range 6 {
			if got := dir.May(x.d, shards); got != slices.Contains(x.shards, shards) {
				t.Errorf("May(%v, %d) = %v", x.d, shards, got)
			}
		}
	}
}

// 19.1: May of directories with any part altered, of any number of shards, beside the plain one.
func TestMayOfAll(t *testing.T) {
	for _, d := range bases() {
		if !dir.May(d, 4) {
			t.Fatal(d)
		}
		for _, x := range altered(d) {
			may(t, x)
		}
		for _, shards := range edges {
			if dir.May(d, shards) != plainMay(d, shards) {
				t.Fatal(d, shards)
			}
		}
	}
}

// 19.1: Shard of all pages, by a directory of which each bucket is told by hand; while one moves it is its Owner's.
func TestShard(t *testing.T) {
	d := at(5, 2, 0, 0, 3, 1, 1, 1, 0, 2, 3, 3, 0, 1, 2, 0, 3)
	want := list(
		2, 0, 0, 1, 1, 3, 3, 0, 2, 3, 1, 2, 1, 0, 0, 3,
		0, 2, 3, 1, 2, 1, 0, 0, 3, 2, 0, 0, 1, 1, 3, 3,
		0, 3, 2, 0, 0, 1, 1, 3, 3, 0, 2, 3, 1, 2, 1, 0,
	)
	for _, x := range []api.Dir{d, thence(d, 0, 1, api.PDrain), thence(d, 0, 1, api.PCarry), thence(d, 7, 3, api.PCarry), thence(d, 15, 0, api.PDrain)} {
		for page, shard := range want {
			if got := dir.Shard(x, page); got != shard {
				t.Fatalf("Shard(%v, %d) = %d, want %d", x, page, got, shard)
			}
		}
		for _, page := range edges {
			shard := -1
			if page >= 0 {
				shard = d.Owner[plainBucket(page)]
			}
			if got := dir.Shard(x, page); got != shard {
				t.Fatalf("Shard(%v, %d) = %d, want %d", x, page, got, shard)
			}
		}
	}
}

// 19.1: Shard of fewer Owners is -1, and of no page; that of more is the bucket's Owner.
func TestShardOfFewer(t *testing.T) {
	for n := range 40 {
		d := at(1)
		for k := range n {
			d.Owner = append(d.Owner, 100+k)
		}
		for page := -20; page < 48; page++ {
			want := -1
			if page >= 0 && n >= 16 {
				want = 100 + plainBucket(page)
			}
			if got := dir.Shard(d, page); got != want {
				t.Fatalf("Shard of %d owners, %d = %d, want %d", n, page, got, want)
			}
		}
	}
	for _, page := range edges {
		if dir.Shard(api.Dir{}, page) != -1 || dir.Shard(api.Dir{Owner: []int{}}, page) != -1 {
			t.Fatal(page)
		}
	}
}

// 19.2: a move, step by step, by hand; given up in each of its phases.
func TestMove(t *testing.T) {
	begin, carry, swap, stop := call{"Begin", 7, 2}, call{name: "Carry"}, call{name: "Switch"}, call{name: "Stop"}
	d := at(1, inTurns(3)...)
	step(t, d, carry, d, api.ErrState)
	step(t, d, swap, d, api.ErrState)
	step(t, d, stop, d, api.ErrState)

	m := step(t, d, begin, api.Dir{Version: 1, Owner: inTurns(3), Bucket: 7, To: 2, Phase: api.PDrain}, api.OK)
	step(t, m, begin, m, api.ErrHeld)
	step(t, m, swap, m, api.ErrState)
	step(t, m, stop, d, api.OK)

	c := step(t, m, carry, api.Dir{Version: 1, Owner: inTurns(3), Bucket: 7, To: 2, Phase: api.PCarry}, api.OK)
	step(t, c, begin, c, api.ErrHeld)
	step(t, c, carry, c, api.ErrState)
	step(t, c, stop, d, api.OK)

	s := step(t, c, swap, at(2, 0, 1, 2, 0, 1, 2, 0, 2, 2, 0, 1, 2, 0, 1, 2, 0), api.OK)
	step(t, s, begin, s, api.ErrArg) // it is its owner's now
	step(t, s, swap, s, api.ErrState)
	step(t, s, stop, s, api.ErrState)
	step(t, s, call{"Begin", 7, 1}, api.Dir{Version: 2, Owner: s.Owner, Bucket: 7, To: 1, Phase: api.PDrain}, api.OK)
}

// 19.2: Begin of each bucket to each shard: to all but its owner; no bucket and no shard are ErrArg, ErrHeld if one moves, whatever is asked.
func TestBegin(t *testing.T) {
	for _, d := range bases() {
		for _, bucket := range append(slices.Clone(edges), 9, 10, 11, 12, 13) {
			for _, to := range edges {
				want, code := d, api.ErrArg
				switch {
				case d.Phase != 0:
					code = api.ErrHeld
				case bucket >= 0 && bucket < 16 && to >= 0 && to < 4 && d.Owner[bucket] != to:
					want, code = thence(d, bucket, to, 1), api.OK
				}
				step(t, d, call{"Begin", bucket, to}, want, code)
			}
		}
	}
}

// 19.2: Carry, Switch and Stop of directories at rest and in each phase; at MaxSteps there is no more version, though one may begin, carry and stop.
func TestCarrySwitchStop(t *testing.T) {
	for _, d := range bases() {
		carried, stopped, switched := thence(d, d.Bucket, d.To, 2), thence(d, -1, 0, 0), thence(d, -1, 0, 0)
		codes := [][]int{list(api.ErrState, api.ErrState, api.ErrState), list(api.OK, api.ErrState, api.OK), list(api.ErrState, api.OK, api.OK)}[d.Phase]
		if d.Phase == api.PCarry {
			switched.Version++
			switched.Owner[d.Bucket] = d.To
			if d.Version == api.MaxSteps {
				codes[1] = api.ErrArg
			}
		}
		for k, want := range []api.Dir{carried, switched, stopped} {
			if codes[k] != api.OK {
				want = d
			}
			step(t, d, call{name: []string{"Carry", "Switch", "Stop"}[k]}, want, codes[k])
		}
	}
}

// 19.2: what may not be (with 4 shards) is answered as it is, with ErrArg ahead of all else, whatever is asked of it.
func TestMayNot(t *testing.T) {
	calls := []call{{"Begin", 0, 1}, {"Begin", 3, 2}, {"Begin", 16, 0}, {"Begin", -1, -1}, {name: "Carry"}, {name: "Switch"}, {name: "Stop"}}
	for _, d := range bases() {
		for _, x := range altered(d) {
			if !plainMay(x, 4) {
				for _, c := range calls {
					step(t, x, c, x, api.ErrArg)
				}
			}
		}
	}
	for _, c := range calls {
		five := at(1, inTurns(4)...)
		five.Owner[9] = 4 // of five shards it might be
		step(t, five, c, five, api.ErrArg)
	}
}

// plain is a directory told anew.
type plain struct {
	version    int
	owner      [16]int
	moving     bool
	bucket, to int
	drained    bool
}

// dir is the directory that the plain one tells of.
func (p plain) dir() api.Dir {
	switch {
	case !p.moving:
		return at(p.version, p.owner[:]...)
	case p.drained:
		return thence(at(p.version, p.owner[:]...), p.bucket, p.to, api.PCarry)
	}
	return thence(at(p.version, p.owner[:]...), p.bucket, p.to, api.PDrain)
}

// does is what comes of a call.
func (p plain) does(c call) (plain, int) {
	switch c.name {
	case "Begin":
		if p.moving {
			return p, 13
		}
		if c.bucket < 0 || c.bucket > 15 || c.to < 0 || c.to > 3 || p.owner[c.bucket] == c.to {
			return p, 1
		}
		p.moving, p.bucket, p.to, p.drained = true, c.bucket, c.to, false
	case "Carry":
		if !p.moving || p.drained {
			return p, 12
		}
		p.drained = true
	case "Switch":
		if !p.moving || !p.drained {
			return p, 12
		}
		if p.version == 1<<30 {
			return p, 1
		}
		p.owner[p.bucket], p.moving = p.to, false
		p.version++
	case "Stop":
		if !p.moving {
			return p, 12
		}
		p.moving = false
	}
	return p, 0
}

// fresh is a plain directory of so many shards.
func fresh(shards, version int) plain {
	p := plain{version: version}
	copy(p.owner[:], inTurns(shards))
	return p
}

// 19.2: all runs of six calls, beside a plain directory.
func TestAllRuns(t *testing.T) {
	calls := []call{{"Begin", 0, 1}, {"Begin", 0, 0}, {"Begin", 15, 2}, {"Begin", 16, 1}, {name: "Carry"}, {name: "Switch"}, {name: "Stop"}}
	var run func(p plain, d api.Dir, left int)
	run = func(p plain, d api.Dir, left int) {
		for _, c := range calls {
			next, code := p.does(c)
			got, is := c.make(d)
			if is != code || !same(got, next.dir()) || !dir.May(got, 4) || !same(d, p.dir()) {
				t.Fatalf("%v of %v = %v, %d, want %v, %d", c, p.dir(), got, is, next.dir(), code)
			}
			if left > 1 {
				run(next, got, left-1)
			}
		}
	}
	for _, version := range list(1, api.MaxSteps-1) {
		for shards := 1; shards <= 4; shards++ {
			run(fresh(shards, version), fresh(shards, version).dir(), 6)
		}
	}
}

// anyCall is a call by chance; a few of them are wrong.
func anyCall(c *rand.Rand) call {
	x := call{bucket: c.Intn(16), to: c.Intn(4)}
	x.name = []string{"Begin", "Begin", "Carry", "Carry", "Switch", "Switch", "Switch", "Stop"}[c.Intn(8)]
	if c.Intn(8) == 0 {
		x.bucket = edges[c.Intn(len(edges))]
	}
	if c.Intn(8) == 0 {
		x.to = edges[c.Intn(len(edges))]
	}
	return x
}

// 19.2: long lives, beside a plain directory; each directory on the way stays as it was.
func TestLives(t *testing.T) {
	c := rand.New(rand.NewSource(191))
	for life := range 60 {
		shards := 1 + life%4
		p, d := fresh(shards, 1), dir.New(shards)
		var were, are []api.Dir
		for range 400 {
			x := anyCall(c)
			next, code := p.does(x)
			got, is := x.make(d)
			if is != code || !same(got, next.dir()) || !dir.Same(got, next.dir()) {
				t.Fatalf("%v of %v = %v, %d, want %v, %d", x, p.dir(), got, is, next.dir(), code)
			}
			p, d = next, got
			were, are = append(were, p.dir()), append(are, d)
		}
		for k := range were {
			if !same(were[k], are[k]) {
				t.Fatal("what comes later changed what was answered", were[k], are[k])
			}
		}
	}
}

// 19.2: Same in all parts, one by one; of directories that may not be, too.
func TestSame(t *testing.T) {
	for _, d := range bases() {
		if !dir.Same(d, copied(d)) || !dir.Same(d, d) {
			t.Fatal(d)
		}
		for _, x := range altered(d) {
			if dir.Same(d, x) != same(d, x) || dir.Same(x, d) != same(d, x) || !dir.Same(x, copied(x)) {
				t.Fatal(d, x)
			}
		}
		for _, x := range bases() {
			if dir.Same(d, x) != same(d, x) {
				t.Fatal(d, x)
			}
		}
	}
	if !dir.Same(api.Dir{}, api.Dir{Owner: []int{}}) || !dir.Same(api.Dir{Owner: []int{}}, api.Dir{}) || dir.Same(api.Dir{}, api.Dir{Owner: list(0)}) {
		t.Fatal("a nil list and an empty one are the same")
	}
}

// What is answered shares nothing with what was handed in, nor with what is answered next, with an error, too.
func TestAnswersAreTheCallersOwn(t *testing.T) {
	for _, d := range append(bases(), at(1, 5, 6, 7), api.Dir{}) {
		d.Owner = append(make([]int, 0, 64), d.Owner...)
		was := copied(d)
		for _, c := range []call{{"Begin", 0, 1}, {"Begin", 3, 2}, {"Begin", 99, 2}, {name: "Carry"}, {name: "Switch"}, {name: "Stop"}} {
			a, _ := c.make(d)
			b, _ := c.make(d)
			want := copied(b)
			_ = append(a.Owner, 91, 92)
			_ = append(d.Owner, 93, 94)
			for k := range a.Owner {
				a.Owner[k] = 71
			}
			if !same(b, want) || !same(d, was) || d.Owner[:64][len(d.Owner)] != 93 {
				t.Fatal(c, b, d)
			}
			for k := range d.Owner {
				d.Owner[k] = 72 // what was handed in is not kept, either
			}
			if !same(b, want) {
				t.Fatal(c, b)
			}
			copy(d.Owner, was.Owner)
		}
	}
}

// 19.3: of one version all pages have one owner, whatever begins, is carried, and is given up; a new version has one bucket elsewhere.
func TestOneVersionOneOwner(t *testing.T) {
	c := rand.New(rand.NewSource(192))
	moves := 0
	for life := range 60 {
		d := dir.New(1 + life%4)
		owners := map[int][]int{}
		for range 600 {
			shards := make([]int, api.MaxPages)
			for page := range shards {
				shards[page] = dir.Shard(d, page)
			}
			if of, ok := owners[d.Version]; ok && !slices.Equal(of, shards) {
				t.Fatal(d, of, shards)
			}
			owners[d.Version] = shards
			was := d.Version
			if d, _ = anyCall(c).make(d); d.Version != was && d.Version != was+1 {
				t.Fatal(was, d)
			}
		}
		for version := 2; version <= d.Version; version++ {
			elsewhere := map[int]bool{}
			for page, shard := range owners[version] {
				if shard != owners[version-1][page] {
					elsewhere[plainBucket(page)] = true
				}
			}
			if len(elsewhere) != 1 {
				t.Fatal(version, elsewhere)
			}
		}
		moves += d.Version - 1
	}
	if moves < 60*20 {
		t.Fatal("too few moves", moves)
	}
}

// house is cores with pages that go to them by a directory, and the pins of each page.
type house struct {
	d     api.Dir
	cores []*core.Core
	pins  map[int]int
}

// call pins a page, or lets it go; a page of a bucket that moves is not pinned anew.
func (h *house) call(page int, pin bool) {
	c := h.cores[dir.Shard(h.d, page)]
	switch {
	case !pin && h.pins[page] > 0:
		c.Let(c.Arena().Find(page))
		h.pins[page]--
	case pin && dir.Bucket(page) == h.d.Bucket && h.d.Phase != api.PNone: // it waits
	case pin && c.Hit(page) >= 0:
		h.pins[page]++
	case pin:
		if code, _, _ := c.Room(page); code == api.OK {
			h.pins[page]++
		}
	}
}

// move has the move go on: it is drained when no page of the bucket is pinned, carried when none is in a frame of the old shard.
func (h *house) move() {
	old := 0
	if h.d.Phase != api.PNone {
		old = h.d.Owner[h.d.Bucket]
	}
	a := h.cores[old].Arena()
	for _, f := range a.Frames() {
		if h.d.Phase == api.PNone || f.State != api.FUsed || dir.Bucket(f.Page) != h.d.Bucket {
			continue
		}
		if f.Pins > 0 {
			return
		}
		if h.d.Phase == api.PCarry {
			a.Drop(a.Find(f.Page))
			return // one at a time
		}
	}
	if h.d.Phase == api.PDrain {
		h.d, _ = dir.Carry(h.d)
		return
	}
	h.d, _ = dir.Switch(h.d)
}

// right is whether no page is in two frames, none is in a frame of a shard that it does not go to, and what is pinned stays.
func (h *house) right() bool {
	there := map[int]int{}
	for shard, c := range h.cores {
		for _, f := range c.Arena().Frames() {
			if f.State == api.FUsed {
				if there[f.Page]++; dir.Shard(h.d, f.Page) != shard || f.Pins != h.pins[f.Page] {
					return false
				}
			}
		}
	}
	for page, n := range h.pins {
		if there[page] > 1 || n > 0 && there[page] != 1 {
			return false
		}
	}
	return true
}

// 19.3, T5: cores whose pages go to them by a directory, while buckets move among them: no page is in two frames, and what is pinned stays.
func TestNoPageIsInTwoFrames(t *testing.T) {
	c := rand.New(rand.NewSource(193))
	moves := 0
	for range 60 {
		h := &house{d: dir.New(1 + c.Intn(4)), pins: map[int]int{}}
		for range 4 {
			h.cores = append(h.cores, core.New(1+c.Intn(8)))
		}
		for range 1500 {
			switch c.Intn(16) {
			case 0:
				h.d, _ = dir.Begin(h.d, c.Intn(16), c.Intn(4))
			case 1:
				if c.Intn(8) == 0 {
					h.d, _ = dir.Stop(h.d)
				}
			case 2, 3, 4, 5:
				h.move()
			default:
				h.call(c.Intn(api.MaxPages), c.Intn(2) == 0)
			}
			if !h.right() || !dir.May(h.d, 4) {
				t.Fatal(h.d, h.pins)
			}
		}
		moves += h.d.Version - 1
	}
	if moves < 60*5 {
		t.Fatal("too few moves", moves)
	}
}
