package table_test

import (
	"math"
	"math/rand"
	"slices"
	"testing"
	"time"

	"lavabo/api"
	"lavabo/table"
)

// sizes are some of all kinds that a table may have.
var sizes = []int{1, 2, 3, 4, 5, 7, 8, 16, 31, 32, 48, 64, 100, 255, 256, 257, 1000, 1023, 1024}

// negatives are no keys.
var negatives = []int{-1, -2, -3, -1024, math.MinInt32, math.MinInt, math.MinInt + 1}

// fresh is the slots of a table that was never used.
func fresh(size int) []api.Slot { return slices.Repeat([]api.Slot{{Key: -1}}, size) }

// stands asks everything of a table.
func stands(t *testing.T, b *table.Table, want []api.Slot) {
	t.Helper()
	if s := b.Slots(); !slices.Equal(s, want) {
		t.Fatalf("Slots() = %v, want %v", s, want)
	}
	count := 0
	for _, s := range want {
		if s.Key >= 0 {
			count++
			get(t, b, s.Key, s.Value)
		}
	}
	if b.Len() != count {
		t.Fatalf("Len() = %d of %v", b.Len(), want)
	}
	for _, key := range negatives {
		get(t, b, key, -1)
	}
}

// put, get and out make a step, and hold what it answers against want.
func put(t *testing.T, b *table.Table, key, value, want int) {
	t.Helper()
	if got := b.Put(key, value); got != want {
		t.Fatalf("Put(%d, %d) = %d, want %d", key, value, got, want)
	}
}

func get(t *testing.T, b *table.Table, key, want int) {
	t.Helper()
	if got := b.Get(key); got != want {
		t.Fatalf("Get(%d) = %d, want %d", key, got, want)
	}
}

func out(t *testing.T, b *table.Table, key, want int) {
	t.Helper()
	if got := b.Out(key); got != want {
		t.Fatalf("Out(%d) = %d, want %d", key, got, want)
	}
}

// at is the first n keys, from a lowest on, of a place.
func at(place, size, n, from int) []int {
	var keys []int
	for key := from; len(keys) < n; key++ {
		if table.Place(key, size) == place {
			keys = append(keys, key)
		}
	}
	return keys
}

// 5.1: places worked out apart from the program.
func TestPlace(t *testing.T) {
	for _, x := range []struct{ key, size, want int }{
		{0, 1, 0}, {1, 1, 0}, {1, 1024, 567}, {2, 1024, 110}, {3, 1000, 974}, {47, 64, 47},
		{12345, 997, 382}, {65535, 1024, 889}, {65536, 1023, 463}, {77, 611, 82}, {1<<40 + 77, 611, 82},
		{math.MaxInt32, 1024, 456}, {math.MaxInt32 + 1, 1024, 0}, {math.MaxUint32, 1024, 456}, {math.MaxUint32, 1000, 32},
		{1 << 32, 1024, 0}, {1<<32 + 1, 1024, 567}, {math.MaxInt, 1024, 456}, {math.MaxInt - 1, 1023, 961},
		{math.MaxInt - math.MaxInt32, 777, 134}, {0x12345678, 1024, 726}, {0x123456789ABCDEF, 1000, 336},
	} {
		if p := table.Place(x.key, x.size); p != x.want {
			t.Errorf("Place(%d, %d) = %d, want %d", x.key, x.size, p, x.want)
		}
	}
}

// plainPlace is 5.1's words, multiplied by hand.
func plainPlace(key, size int) int {
	product := uint64(0)
	for bit := range 32 {
		if key>>bit&1 == 1 {
			product = (product + 2654435761<<bit) % (1 << 32)
		}
	}
	return int(product / 65536 % uint64(size))
}

// 5.1: all sizes, and keys all over their range.
func TestPlaceAll(t *testing.T) {
	r := rand.New(rand.NewSource(5))
	keys := []int{0, 1, 2, math.MaxInt, math.MaxInt - 1}
	for bit := range 63 {
		keys = append(keys, 1<<bit, 1<<bit-1, r.Int()>>bit)
	}
	for _, key := range keys {
		for size := 1; size <= 1024; size++ {
			if p := table.Place(key, size); p != plainPlace(key, size) {
				t.Fatalf("Place(%d, %d) = %d, want %d", key, size, p, plainPlace(key, size))
			}
		}
	}
}

// 5.1: -1 of sizes and keys that are none.
func TestPlaceOfNone(t *testing.T) {
	for _, size := range []int{0, -1, -2, -1024, 1025, 1026, 2048, 1 << 32, 1<<32 + 1, math.MaxInt, math.MinInt} {
		for _, key := range []int{0, 1, 5, math.MaxInt, -1, math.MinInt} {
			if p := table.Place(key, size); p != -1 {
				t.Errorf("Place(%d, %d) = %d", key, size, p)
			}
		}
		if table.New(size) != nil {
			t.Errorf("New(%d) is a table", size)
		}
	}
	for _, key := range negatives {
		for _, size := range sizes {
			if p := table.Place(key, size); p != -1 {
				t.Errorf("Place(%d, %d) = %d", key, size, p)
			}
		}
	}
}

// 5.1: New takes 1 to 1,024, and all slots are -1, 0.
func TestNew(t *testing.T) {
	for size := 1; size <= 1024; size++ {
		b := table.New(size)
		if b == nil {
			t.Fatalf("New(%d) is none", size)
		}
		stands(t, b, fresh(size))
		get(t, b, 0, -1)
		out(t, b, 0, -1)
		stands(t, b, fresh(size))
	}
}

// 5.1: the document's example.
func TestExample(t *testing.T) {
	for _, size := range sizes {
		b := table.New(size)
		put(t, b, 0, 7, api.OK)
		want := fresh(size)
		want[0] = api.Slot{Key: 0, Value: 7}
		stands(t, b, want)
	}
}

// 5.1: keys of one place stand behind one another, round the end; the next one finds no slot.
func TestOnePlace(t *testing.T) {
	for _, size := range []int{1, 2, 3, 5, 8, 64} {
		for place := range size {
			b, want := table.New(size), fresh(size)
			keys := at(place, size, size+1, 0)
			for i, key := range keys[:size] {
				put(t, b, key, 100+i, api.OK)
				want[(place+i)%size] = api.Slot{Key: key, Value: 100 + i}
				stands(t, b, want)
			}
			put(t, b, keys[size], 1, api.ErrFull)
			get(t, b, keys[size], -1)
			out(t, b, keys[size], -1)
			stands(t, b, want)
		}
	}
}

// 5.1: what is there is not put again, and keeps its value, in a full table, too.
func TestHeld(t *testing.T) {
	b := table.New(4)
	for key := range 4 {
		put(t, b, key, -key, api.OK)
		want := b.Slots()
		for there := range key + 1 {
			put(t, b, there, 99, api.ErrHeld)
			put(t, b, there, -there, api.ErrHeld)
		}
		stands(t, b, want)
	}
	want := b.Slots()
	put(t, b, 4, 1, api.ErrFull)
	stands(t, b, want)
}

// 5.1: a key below 0 is not put, though slots that are not in use have such keys.
func TestNegativeKeys(t *testing.T) {
	b := table.New(3)
	refuse := func() {
		t.Helper()
		want := b.Slots()
		for _, key := range negatives {
			put(t, b, key, 5, api.ErrArg)
			get(t, b, key, -1)
			out(t, b, key, -1)
		}
		stands(t, b, want)
	}
	refuse()
	put(t, b, 1, 5, api.OK)
	refuse()
	put(t, b, 2, 6, api.OK)
	put(t, b, 3, 7, api.OK)
	refuse()
	out(t, b, 2, 6)
	refuse()
	out(t, b, 1, 5)
	refuse()
}

// 5.1: a key that stands past a slot that was used is there, and is not put into that slot, too.
func TestPastWhatWasUsed(t *testing.T) {
	b := table.New(5)
	keys := at(3, 5, 4, 0)
	for i, key := range keys[:3] {
		put(t, b, key, i, api.OK)
	}
	out(t, b, keys[0], 0)
	out(t, b, keys[1], 1)
	want := []api.Slot{{Key: keys[2], Value: 2}, {Key: -1}, {Key: -1}, {Key: -2}, {Key: -2}}
	stands(t, b, want)
	put(t, b, keys[2], 9, api.ErrHeld)
	stands(t, b, want)
	put(t, b, keys[3], 3, api.OK)
	want[3] = api.Slot{Key: keys[3], Value: 3}
	stands(t, b, want)
	put(t, b, keys[0], 4, api.OK)
	want[4] = api.Slot{Key: keys[0], Value: 4}
	stands(t, b, want)
	out(t, b, keys[2], 2)
	want[0] = api.Slot{Key: -2}
	stands(t, b, want)
}

// 5.1: a slot that was never used ends the search: a key whose way leads there stands in it, though others past it were used.
func TestNeverUsedEnds(t *testing.T) {
	b := table.New(6)
	one, two, three := at(1, 6, 1, 0)[0], at(3, 6, 1, 0)[0], at(2, 6, 1, 0)[0]
	put(t, b, one, 10, api.OK)
	put(t, b, two, 20, api.OK)
	out(t, b, two, 20)
	put(t, b, three, 30, api.OK)
	stands(t, b, []api.Slot{{Key: -1}, {Key: one, Value: 10}, {Key: three, Value: 30}, {Key: -2}, {Key: -1}, {Key: -1}})
}

// 5.1: with no slot that was never used, all are looked at: of absent keys nothing, and a slot that was used is taken.
func TestNoneNeverUsed(t *testing.T) {
	const size = 4
	b := table.New(size)
	keys := at(2, size, size+1, 0)
	for i, key := range keys[:size] {
		put(t, b, key, i, api.OK)
	}
	out(t, b, keys[2], 2)
	get(t, b, keys[size], -1)
	put(t, b, keys[size], 8, api.OK)
	want := []api.Slot{{Key: keys[4], Value: 8}, {Key: keys[3], Value: 3}, {Key: keys[0], Value: 0}, {Key: keys[1], Value: 1}}
	stands(t, b, want)
	out(t, b, keys[3], 3)
	put(t, b, keys[1], 9, api.ErrHeld)
	put(t, b, keys[2], 5, api.OK)
	want[1] = api.Slot{Key: keys[2], Value: 5}
	stands(t, b, want)
	put(t, b, keys[3], 5, api.ErrFull)
	stands(t, b, want)
}

// 5.1: values and keys of the whole range; a value of -1 is one.
func TestWholeRange(t *testing.T) {
	b := table.New(64)
	keys := []int{0, 1, math.MaxInt32, math.MaxUint32, 1 << 32, 1<<32 + 1, math.MaxInt - 1, math.MaxInt}
	for i, key := range keys {
		put(t, b, key, []int{0, -1, -2, math.MinInt, math.MaxInt, 7, -7, 1}[i], api.OK)
	}
	stands(t, b, b.Slots())
	get(t, b, 1, -1)
	get(t, b, math.MaxInt32, -2)
	get(t, b, math.MaxUint32, math.MinInt)
	out(t, b, 1<<32, math.MaxInt)
	put(t, b, 1, 3, api.ErrHeld)
	out(t, b, 1, -1)
	put(t, b, 1, 3, api.OK)
	get(t, b, 1, 3)
	get(t, b, 1<<32, -1)
	get(t, b, 1<<32+1, 7)
}

// 5.2: with the last key out, and no sooner, all slots are as if never used, in whatever order keys go.
func TestLastOneOut(t *testing.T) {
	for _, size := range sizes {
		for _, n := range []int{1, (size + 1) / 2, size} {
			b := table.New(size)
			for turn := range 2 {
				for key := range n {
					put(t, b, key, key+turn, api.OK)
				}
				want := b.Slots()
				for i := range n {
					key := (i*7 + turn) % n
					if n%7 == 0 {
						key = i
					}
					want[slices.IndexFunc(want, func(s api.Slot) bool { return s.Key == key })] = api.Slot{Key: -2}
					out(t, b, key, key+turn)
					if i < n-1 {
						stands(t, b, want)
					}
				}
				stands(t, b, fresh(size))
			}
		}
	}
}

// 5.2: an Out of one who is not there changes nothing.
func TestOutOfNobody(t *testing.T) {
	b := table.New(2)
	out(t, b, 0, -1)
	put(t, b, 0, 1, api.OK)
	put(t, b, 1, 1, api.OK)
	out(t, b, 0, 1)
	want := b.Slots()
	out(t, b, 0, -1)
	out(t, b, 2, -1)
	stands(t, b, want)
}

// plain is a table told anew from 5.1's and 5.2's words, long ways round.
type plain []api.Slot

// way is the slots that a search for a key looks at.
func (p plain) way(key int) []int {
	var way []int
	for i := range p {
		way = append(way, (plainPlace(key, len(p))+i)%len(p))
	}
	end := slices.IndexFunc(way, func(at int) bool { return p[at].Key == -1 || p[at].Key == key })
	if end >= 0 {
		way = way[:end+1]
	}
	return way
}

func (p plain) put(key, value int) int {
	if key < 0 {
		return api.ErrArg
	}
	way := p.way(key)
	if p[way[len(way)-1]].Key == key {
		return api.ErrHeld
	}
	for _, at := range way {
		if p[at].Key < 0 {
			p[at] = api.Slot{Key: key, Value: value}
			return api.OK
		}
	}
	return api.ErrFull
}

func (p plain) out(key int) int {
	at := slices.IndexFunc(p, func(s api.Slot) bool { return s.Key == key })
	if key < 0 || at < 0 {
		return -1
	}
	value := p[at].Value
	p[at] = api.Slot{Key: -2}
	if !slices.ContainsFunc(p, func(s api.Slot) bool { return s.Key >= 0 }) {
		copy(p, fresh(len(p)))
	}
	return value
}

// both makes a step on a table and on the plain one.
func both(t *testing.T, b *table.Table, p plain, kind, key, value int) {
	t.Helper()
	if kind == 0 {
		put(t, b, key, value, p.put(key, value))
	} else {
		out(t, b, key, p.out(key))
	}
}

// lacks asks for keys: those that the plain one has not are not there.
func lacks(t *testing.T, b *table.Table, p plain, keys int) {
	t.Helper()
	for key := range keys {
		if !slices.ContainsFunc(p, func(s api.Slot) bool { return s.Key == key }) {
			get(t, b, key, -1)
		}
	}
}

// 5.1, 5.2: all runs of five steps on tables of three slots, of six on less, keys that are none among them.
func TestAllRuns(t *testing.T) {
	for _, x := range []struct{ size, steps int }{{1, 6}, {2, 6}, {3, 5}} {
		keys := x.size + 2 // -1 and one more than there are slots
		runs := 1
		for range x.steps {
			runs *= 2 * keys
		}
		for run := range runs {
			b, p := table.New(x.size), plain(fresh(x.size))
			for step := range x.steps {
				both(t, b, p, run%2, run/2%keys-1, step)
				run /= 2 * keys
			}
			stands(t, b, p)
			lacks(t, b, p, keys)
		}
	}
}

// 5.1, 5.2: long lives of tables of many sizes, by chance, beside the plain one: ever fuller, then ever emptier.
func TestLives(t *testing.T) {
	r := rand.New(rand.NewSource(52))
	for _, size := range sizes {
		for range 4 {
			b, p := table.New(size), plain(fresh(size))
			keys := size + 3
			for step := range 6 * size {
				kind := 0
				if r.Intn(6*size) < step {
					kind = 1
				}
				both(t, b, p, kind, r.Intn(keys)-1, r.Intn(1000)-500)
				if size < 64 || r.Intn(size) == 0 {
					stands(t, b, p)
					lacks(t, b, p, keys)
				}
			}
			stands(t, b, p)
			for key := range keys {
				both(t, b, p, 1, key, 0)
			}
			stands(t, b, fresh(size))
		}
	}
}

// 5.1: of nil: ErrState (of a key below 0, too), -1, 0, nothing.
func TestNil(t *testing.T) {
	var b *table.Table
	for _, key := range append([]int{0, 1, math.MaxInt}, negatives...) {
		put(t, b, key, 1, api.ErrState)
		get(t, b, key, -1)
		out(t, b, key, -1)
	}
	if b.Len() != 0 || len(b.Slots()) != 0 {
		t.Fatal(b.Len(), b.Slots())
	}
}

// Rule 1: a table made without New has no slots, and panics nowhere.
func TestMadeWithoutNew(t *testing.T) {
	b := &table.Table{}
	put(t, b, -1, 1, api.ErrArg)
	put(t, b, 0, 1, api.ErrFull)
	get(t, b, 0, -1)
	out(t, b, 0, -1)
	stands(t, b, nil)
}

// Rule 2: what Slots answers is the caller's own.
func TestSlotsAreTheCallers(t *testing.T) {
	b := table.New(4)
	put(t, b, 0, 7, api.OK)
	want := []api.Slot{{Key: 0, Value: 7}, {Key: -1}, {Key: -1}, {Key: -1}}
	one, two := b.Slots(), b.Slots()
	clear(one)
	_ = append(one[:1], api.Slot{Key: 9, Value: 9})
	if !slices.Equal(two, want) {
		t.Fatal("two answers share", two)
	}
	stands(t, b, want)
	out(t, b, 0, 7)
	if !slices.Equal(two, want) {
		t.Fatal("an answer is changed by a step", two)
	}
}

// Rule 3: a table hangs on the calls ahead on it alone.
func TestTablesAreApart(t *testing.T) {
	b, c := table.New(2), table.New(2)
	put(t, b, 0, 1, api.OK)
	stands(t, c, fresh(2))
	put(t, c, 0, 2, api.OK)
	out(t, c, 0, 2)
	stands(t, b, []api.Slot{{Key: 0, Value: 1}, {Key: -1}})
}

// looks is how many slots are looked at to find each key that is in: in all, and at most.
func looks(b *table.Table) (sum, most int) {
	slots := b.Slots()
	for i, s := range slots {
		if s.Key >= 0 {
			n := (i-table.Place(s.Key, len(slots))+len(slots))%len(slots) + 1
			sum, most = sum+n, max(most, n)
		}
	}
	return sum, most
}

// 5.3: the pages of a device, in tables half as large again and larger: by few looks on average over the tables, and
// by at most four where the number of slots is a power of two. (By the factor of 5.1 there are sizes that crowd them: 73.)
func TestPagesAreFoundInFewSteps(t *testing.T) {
	all, tables := 0, 0
	for size := api.MaxPages * 3 / 2; size <= 1024; size++ {
		b := table.New(size)
		for page := range api.MaxPages {
			put(t, b, page, page, api.OK)
		}
		sum, most := looks(b)
		if size&(size-1) == 0 && most > 4 {
			t.Errorf("%d pages in %d slots: at most %d looks", api.MaxPages, size, most)
		}
		all, tables = all+sum, tables+1
	}
	if all > tables*api.MaxPages*5/4 {
		t.Errorf("%d looks for %d pages", all, tables*api.MaxPages)
	}
}

// 5.3: as many pages as a pool may have frames, by chance, in tables of twice as many slots.
func TestFramesAreFoundInFewSteps(t *testing.T) {
	r := rand.New(rand.NewSource(53))
	all := 0
	for range 1000 {
		b := table.New(2 * api.MaxFrames)
		for _, page := range r.Perm(api.MaxPages)[:api.MaxFrames] {
			put(t, b, page, page, api.OK)
		}
		sum, most := looks(b)
		if most > 8 {
			t.Errorf("a page is found by %d looks", most)
		}
		all += sum
	}
	if all > 2*1000*api.MaxFrames {
		t.Errorf("%d looks for %d pages", all, 1000*api.MaxFrames)
	}
}

// half is a table of which every other slot is in use.
func half(t *testing.T, size int) *table.Table {
	t.Helper()
	b := table.New(size)
	for key := range size / 2 {
		put(t, b, key, key, api.OK)
	}
	return b
}

// short is the time of a thousand calls, the least of many tries: what else runs here makes a try longer, never shorter.
func short(call func(key int)) time.Duration {
	least := time.Hour
	for range 40 {
		from := time.Now()
		for i := range 1000 {
			call(i)
		}
		least = min(least, time.Since(from))
	}
	return least
}

// 5.3: a call makes no memory, and is not longer on a table of a thousand slots than on one of eight (by far less than going over all slots takes).
func TestCallsAreShort(t *testing.T) {
	little, great := half(t, 8), half(t, 1024)
	for _, x := range []struct {
		name string
		call func(b *table.Table, key, n int) // n keys are in, 0 to n - 1
	}{
		{"Get", func(b *table.Table, key, n int) { b.Get(key % n) }},
		{"Get of none", func(b *table.Table, key, n int) { b.Get(n + key%n) }},
		{"Put of one that is there", func(b *table.Table, key, n int) { b.Put(key%n, 1) }},
		{"Out of none", func(b *table.Table, key, n int) { b.Out(n + key%n) }},
		{"Out and Put", func(b *table.Table, key, n int) { b.Out(key % n); b.Put(key%n, 1) }},
		{"Len", func(b *table.Table, _, n int) { b.Len() }},
	} {
		key := 0
		if n := testing.AllocsPerRun(100, func() { x.call(great, key, 512); key++ }); n != 0 {
			t.Errorf("%s: makes memory %v times", x.name, n)
		}
		few := short(func(key int) { x.call(little, key, 4) })
		many := short(func(key int) { x.call(great, key, 512) })
		if many > 20*few+20*time.Microsecond {
			t.Errorf("%s: %v on 8 slots, %v on 1024", x.name, few, many)
		}
	}
}
