package ring

import (
	"math"
	"slices"
	"testing"

	"scuttlebutt/draw"
)

// The orders and states that stand here as numbers come from a reckoning of the chapters' words outside of this program.

// seeds: what the tests of every ring go through.
var seeds = []uint64{0, 1, 9, 42, 1234567, 1 << 63, math.MaxUint64, 0x61c8864680b583eb}

// count: the list 1, 2 .. n.
func count(n int) []int {
	l := make([]int, n)
	for i := range l {
		l[i] = i + 1
	}
	return l
}

// sorted: l, rising, in new memory.
func sorted(l []int) []int {
	l = slices.Clone(l)
	slices.Sort(l)
	return l
}

// mixed: that seed's first mixing of l, and the stream behind it.
func mixed(seed uint64, l []int) ([]int, draw.Stream) { return draw.New(seed).Mix(l) }

// wantNext: Next(l) must be that one.
func wantNext(t *testing.T, r *Ring, l []int, want int) {
	t.Helper()
	if id, ok := r.Next(l); id != want || !ok {
		t.Errorf("Next(%v): %d, %v, want %d", l, id, ok, want)
	}
}

// wantNobody: Next of nobody must be false, and change nothing.
func wantNobody(t *testing.T, r *Ring) {
	t.Helper()
	left, state := r.Left(), r.State()
	for _, l := range [][]int{nil, {}, count(9)[:0], count(9)[4:4]} {
		if id, ok := r.Next(l); id != 0 || ok {
			t.Errorf("Next of nobody: %d, %v", id, ok)
		}
		wantRing(t, r, state, left...)
	}
}

// wantRing: the State must be that, and those left these.
func wantRing(t *testing.T, r *Ring, state uint64, left ...int) {
	t.Helper()
	if got := r.Left(); !slices.Equal(got, left) {
		t.Errorf("Left: %v, want %v", got, left)
	}
	if got := r.State(); got != state {
		t.Errorf("State: %x, want %x", got, state)
	}
}

// run: what Next answers n times; each must be told.
func run(t *testing.T, r *Ring, l []int, n int) []int {
	t.Helper()
	told := []int{}
	for range n {
		id, ok := r.Next(l)
		if !ok {
			t.Fatalf("Next(%v): false", l)
		}
		told = append(told, id)
	}
	return told
}

// P13.1: a new ring stands at the seed, whatever it is, and nobody is left in it, whatever another one has.
func TestNew(t *testing.T) {
	other := New(5)
	run(t, other, count(8), 3)
	left, state := other.Left(), other.State()
	for _, seed := range seeds {
		r := New(seed)
		if r == nil {
			t.Fatalf("New(%x): nil", seed)
		}
		wantRing(t, r, seed)
		wantNobody(t, r)
		run(t, r, count(5), 2)
	}
	wantRing(t, other, state, left...)
}

// P13.1: Next of nobody is false, also where somebody is left, and changes nothing.
func TestNextOfNobody(t *testing.T) {
	for _, seed := range seeds {
		r := New(seed)
		for range 12 {
			wantNobody(t, r)
			run(t, r, count(5), 1)
		}
		r.Some(count(9), 2)
		wantNobody(t, r)
	}
}

// P13.1: mixed, they are told in order; behind the last one they are mixed once more.
func TestNextInOrder(t *testing.T) {
	for _, c := range []struct {
		seed   uint64
		list   []int
		rounds [][]int
		after  []uint64
	}{
		{0, []int{1, 2}, [][]int{{1, 2}, {2, 1}, {1, 2}}, []uint64{0x9e3779b97f4a7c15, 0x3c6ef372fe94f82a, 0xdaa66d2c7ddf743f}},
		{0, []int{1, 2, 3}, [][]int{{3, 1, 2}, {3, 1, 2}, {3, 1, 2}}, []uint64{0x3c6ef372fe94f82a, 0x78dde6e5fd29f054, 0xb54cda58fbbee87e}},
		{1, []int{1, 2, 3}, [][]int{{1, 2, 3}, {3, 2, 1}, {2, 3, 1}}, []uint64{0x3c6ef372fe94f82b, 0x78dde6e5fd29f055, 0xb54cda58fbbee87f}},
		{42, []int{2, 4, 6, 8, 10}, [][]int{{4, 6, 2, 10, 8}, {8, 10, 4, 6, 2}, {4, 10, 8, 6, 2}}, []uint64{0x78dde6e5fd29f07e, 0xf1bbcdcbfa53e0d2, 0x6a99b4b1f77dd126}},
		{0, count(12), [][]int{{5, 2, 7, 9, 1, 6, 3, 4, 12, 10, 11, 8}, {7, 12, 8, 1, 6, 9, 5, 4, 3, 2, 10, 11}, {10, 8, 12, 6, 4, 5, 11, 1, 3, 2, 9, 7}}, []uint64{0xcc623af8783354e7, 0x98c475f0f066a9ce, 0x6526b0e96899feb5}},
		{math.MaxUint64, count(12), [][]int{{4, 3, 5, 12, 8, 10, 6, 11, 1, 2, 7, 9}, {3, 4, 6, 9, 2, 10, 12, 11, 5, 7, 1, 8}, {9, 2, 8, 1, 6, 10, 12, 11, 7, 3, 5, 4}}, []uint64{0xcc623af8783354e6, 0x98c475f0f066a9cd, 0x6526b0e96899feb4}},
		{0, []int{5, 5, -1, 5, 0}, [][]int{{-1, 5, 5, 0, 5}, {5, 5, 5, 0, -1}, {5, 5, 5, -1, 0}}, []uint64{0x78dde6e5fd29f054, 0xf1bbcdcbfa53e0a8, 0x6a99b4b1f77dd0fc}},
		{7, []int{6}, [][]int{{6}, {6}, {6}}, []uint64{7, 7, 7}},
	} {
		r := New(c.seed)
		for i, round := range c.rounds {
			for k, id := range round {
				wantNext(t, r, c.list, id)
				wantRing(t, r, c.after[i], round[k+1:]...)
			}
		}
	}
}

// P13.1: who is told is of those that are left, not of l's own order: l in another order changes nothing ahead of the next mixing.
func TestNextOfAnotherOrder(t *testing.T) {
	for _, seed := range seeds {
		l := count(9)
		round, s := mixed(seed, l)
		r := New(seed)
		wantNext(t, r, l, round[0])
		slices.Reverse(l)
		for k := 1; k < len(round); k++ {
			wantNext(t, r, l, round[k])
			wantRing(t, r, s.State, round[k+1:]...)
		}
		round, s = s.Mix(l)
		wantNext(t, r, l, round[0])
		wantRing(t, r, s.State, round[1:]...)
	}
}

// P13.1: the first of those left that is in l is told; those ahead of it are left no more, and nothing is drawn.
func TestNextSkips(t *testing.T) {
	for _, seed := range seeds {
		round, s := mixed(seed, count(10))
		for told := 1; told < 10; told++ {
			for k := told; k < 10; k++ {
				// Of l: some that were told already, the one, some behind it, and some that nobody mixed.
				for _, l := range [][]int{{round[k]}, {round[9], round[k]}, append(slices.Clone(round[k:]), 99), append([]int{77, -1, 0}, round[k], round[0])} {
					r := New(seed)
					run(t, r, count(10), told)
					wantNext(t, r, l, round[k])
					wantRing(t, r, s.State, round[k+1:]...)
				}
			}
		}
	}
}

// P13.1: those that were skipped don't come again ahead of the next mixing, also where they are in l again.
func TestSkippedAreGone(t *testing.T) {
	for _, seed := range seeds {
		l := count(6)
		round, s := mixed(seed, l)
		r := New(seed)
		wantNext(t, r, l, round[0])
		wantNext(t, r, round[3:], round[3])
		wantNext(t, r, l, round[4])
		wantNext(t, r, l, round[5])
		wantRing(t, r, s.State)
		again, s := s.Mix(l)
		wantNext(t, r, l, again[0])
		wantRing(t, r, s.State, again[1:]...)
	}
}

// P13.1: if none of those left is in l, those that are left are l, mixed: nobody else any more.
func TestNoneIsLeft(t *testing.T) {
	for _, seed := range seeds {
		for told := range 6 {
			for _, l := range [][]int{{77}, {11, 12}, {-3, 0, 40, 8, 21}} {
				r, s := New(seed), draw.New(seed)
				if told > 0 {
					_, s = s.Mix(count(5))
					run(t, r, count(5), told)
				}
				round, s := s.Mix(l)
				wantNext(t, r, l, round[0])
				wantRing(t, r, s.State, round[1:]...)
			}
		}
	}
}

// P13.1: of those told already, but of nobody left, l is mixed anew, and the first of that is told, as often as it comes.
func TestToldAlready(t *testing.T) {
	for _, seed := range seeds {
		round, s := mixed(seed, count(5))
		r := New(seed)
		wantNext(t, r, count(5), round[0])
		wantNext(t, r, round[:1], round[0])
		wantRing(t, r, s.State)
		for range 3 {
			wantNext(t, r, []int{4}, 4)
			wantRing(t, r, s.State)
		}
	}
}

// P13.1: who comes into l is told no sooner than behind the next mixing.
func TestNewcomersWait(t *testing.T) {
	for _, seed := range seeds {
		few, all := count(4), count(9)
		round, s := mixed(seed, few)
		r := New(seed)
		wantNext(t, r, few, round[0])
		for k := 1; k < 4; k++ {
			wantNext(t, r, all, round[k])
			wantRing(t, r, s.State, round[k+1:]...)
		}
		round, s = s.Mix(all)
		wantNext(t, r, all, round[0])
		wantRing(t, r, s.State, round[1:]...)
	}
}

// P13.1: numbers of any 64 bits may be in l.
func TestAnyNumbers(t *testing.T) {
	l := []int{math.MinInt64, math.MinInt64 + 1, -1, 0, 1, 33, 1 << 32, 1<<32 + 1, math.MaxInt64 - 1, math.MaxInt64}
	for _, seed := range seeds {
		round, s := mixed(seed, l)
		r := New(seed)
		for k, id := range round {
			wantNext(t, r, l, id)
			wantRing(t, r, s.State, round[k+1:]...)
		}
		for _, id := range l {
			wantNext(t, r, []int{id}, id)
			wantRing(t, r, s.State)
		}
	}
}

// P13.1: what stands in l more than once is told as often.
func TestMoreThanOnce(t *testing.T) {
	r := New(42)
	l := []int{5, 5, -1, 5, 0}
	for _, want := range [][]int{{5, -1, 5, 0, 5}, {5, 0, 5, -1, 5}} {
		if got := run(t, r, l, 5); !slices.Equal(got, want) {
			t.Errorf("%v, want %v", got, want)
		}
	}
	if got := run(t, New(3), []int{8, 8, 8}, 7); !slices.Equal(got, []int{8, 8, 8, 8, 8, 8, 8}) {
		t.Errorf("%v", got)
	}
}

// P13.1: Some is of the stream, which goes on by it; those left stay. As of the stream: all if there are less, none if k is below 1.
func TestSome(t *testing.T) {
	for _, seed := range seeds {
		for n := range 8 {
			for _, k := range []int{-1, 0, 1, 2, n - 1, n, n + 1, math.MaxInt64, math.MinInt64, 1 << 32} {
				for told := range 5 {
					r := New(seed)
					run(t, r, count(6), told)
					left := r.Left()
					want, s := draw.New(r.State()).Some(count(n), k)
					if got := r.Some(count(n), k); !slices.Equal(got, want) || len(got) != min(max(k, 0), n) {
						t.Errorf("seed %x, %d told, Some of %d, %d: %v, want %v", seed, told, n, k, got, want)
					}
					wantRing(t, r, s.State, left...)
				}
			}
		}
	}
}

// P13.1: Some in numbers, one behind another; also where none are asked for the stream goes on.
func TestSomeNumbers(t *testing.T) {
	r := New(42)
	for _, c := range []struct {
		k     int
		want  []int
		after uint64
	}{
		{2, []int{4, 6}, 0x78dde6e5fd29f07e}, {0, nil, 0xf1bbcdcbfa53e0d2}, {9, []int{4, 10, 8, 6, 2}, 0x6a99b4b1f77dd126},
	} {
		if got := r.Some([]int{2, 4, 6, 8, 10}, c.k); !slices.Equal(got, c.want) {
			t.Errorf("%d: %v, want %v", c.k, got, c.want)
		}
		wantRing(t, r, c.after)
	}
}

// P13.1: what Next mixes goes on where Some left the stream, and the other way round.
func TestSomeAndNext(t *testing.T) {
	for _, seed := range seeds {
		r, s := New(seed), draw.New(seed)
		for n := 1; n < 9; n++ {
			some, after := s.Some(count(n+3), n)
			if got := r.Some(count(n+3), n); !slices.Equal(got, some) {
				t.Errorf("Some: %v, want %v", got, some)
			}
			round, behind := after.Mix(count(n))
			s = behind
			for k, id := range round {
				wantNext(t, r, count(n), id)
				wantRing(t, r, s.State, round[k+1:]...)
			}
		}
	}
}

// P13.2: between two mixings each of l is told once, however often Some is asked in between, and whatever the length of l.
func TestEachOnce(t *testing.T) {
	for _, seed := range seeds {
		for _, n := range []int{1, 2, 3, 7, 31, 32, 100} {
			r, l := New(seed), count(n)
			for range 6 {
				told := []int{}
				for range n {
					told = append(told, run(t, r, l, 1)...)
					r.Some(l, 3)
				}
				if !slices.Equal(sorted(told), l) || len(r.Left()) != 0 {
					t.Fatalf("seed %x: %v were told, %v are left", seed, told, r.Left())
				}
			}
		}
	}
}

// P13.2: who stays in l is told once between two mixings, also where others go out of l, and others come.
func TestStayersOnce(t *testing.T) {
	for _, seed := range seeds {
		for gone := 1; gone <= 9; gone++ {
			for ahead := 1; ahead <= 9; ahead++ {
				r := New(seed)
				told := run(t, r, count(9), ahead)
				state := r.State()
				l := slices.DeleteFunc(count(12), func(id int) bool { return id == gone })
				for slices.ContainsFunc(r.Left(), func(id int) bool { return id != gone }) {
					told = append(told, run(t, r, l, 1)...)
					if r.State() != state {
						t.Fatalf("seed %x: mixed too soon", seed)
					}
				}
				told = slices.DeleteFunc(told, func(id int) bool { return id == gone })
				if want := slices.DeleteFunc(count(9), func(id int) bool { return id == gone }); !slices.Equal(sorted(told), want) {
					t.Fatalf("seed %x, %d gone behind %d: %v were told", seed, gone, ahead, told)
				}
			}
		}
	}
}

// P3: what is handed in is not written into, nor what stands behind it in its array; nor is it kept.
func TestArgumentsStay(t *testing.T) {
	for _, seed := range seeds {
		array := count(20)
		r := New(seed)
		for k := range 30 {
			r.Next(array[2:9])
			r.Some(array[3:12], k-2)
			r.Next(array[8:10])
			r.Next(array[:0])
		}
		if !slices.Equal(array, count(20)) {
			t.Fatalf("seed %x: %v", seed, array)
		}
		l := count(9)
		round, s := mixed(seed, l)
		r = New(seed)
		wantNext(t, r, l, round[0])
		clear(l)
		wantRing(t, r, s.State, round[1:]...)
		wantNext(t, r, count(9), round[1])
	}
}

// spoil writes into all of l, and into its spare room.
func spoil(l []int) {
	l = l[:cap(l)]
	for i := range l {
		l[i] = -77
	}
}

// P3: answers are new memory, with their spare room: what is written there changes neither the ring nor what was handed in, nor another answer.
func TestAnswersAreNew(t *testing.T) {
	for _, n := range []int{1, 2, 5, 9} {
		for told := range n + 1 {
			array := count(20)
			round, _ := mixed(4, array[:n])
			r := New(4)
			r.Next(array[:n])
			run(t, r, array[:n], max(told-1, 0))
			left, state, other := round[max(told, 1):], r.State(), r.Left()
			spoil(r.Left())
			wantRing(t, r, state, left...)
			for _, k := range []int{0, 1, n, n + 5} {
				some := r.Some(array[:n], k)
				spoil(some)
				wantRing(t, r, r.State(), left...)
			}
			if !slices.Equal(other, left) || !slices.Equal(array, count(20)) {
				t.Errorf("%d of %d: %v, %v", told, n, other, array)
			}
		}
	}
}

// P3: answers stay as they were told, whatever is done behind them.
func TestAnswersStay(t *testing.T) {
	r := New(11)
	for n := 1; n < 30; n++ {
		r.Next(count(n))
		left, some := r.Left(), r.Some(count(n), n/2)
		wasLeft, wasSome := slices.Clone(left), slices.Clone(some)
		run(t, r, count(31), 40)
		r.Some(count(31), 9)
		if !slices.Equal(left, wasLeft) || !slices.Equal(some, wasSome) {
			t.Errorf("%d: an answer changed: %v, %v", n, left, some)
		}
	}
}

// P2: what is asked changes nothing.
func TestAskingChangesNothing(t *testing.T) {
	for _, seed := range seeds {
		round, s := mixed(seed, count(7))
		r := New(seed)
		for range 3 {
			wantRing(t, r, seed)
		}
		for k, id := range round {
			wantNext(t, r, count(7), id)
			for range 3 {
				wantRing(t, r, s.State, round[k+1:]...)
			}
		}
	}
}

// plain is a ring done otherwise, word by word as the chapter tells it: those left stand last one first, and each is held against all of l.
type plain struct {
	s    draw.Stream
	left []int
}

// isIn: is id in l?
func isIn(l []int, id int) bool {
	for _, x := range l {
		if x == id {
			return true
		}
	}
	return false
}

// next: Next.
func (p *plain) next(l []int) (int, bool) {
	if len(l) == 0 {
		return 0, false
	}
	for i := len(p.left) - 1; i >= 0; i-- {
		if id := p.left[i]; isIn(l, id) {
			p.left = p.left[:i]
			return id, true
		}
	}
	p.left, p.s = p.s.Mix(l)
	slices.Reverse(p.left)
	return p.next(l)
}

// some: Some.
func (p *plain) some(l []int, k int) []int {
	m, s := p.s.Mix(l)
	p.s = s
	return m[:max(0, min(k, len(m)))]
}

// play does to a ring, and to a plain one, what is drawn.
type play struct {
	s   draw.Stream
	r   *Ring
	p   *plain
	ids int
	// Who is live, and how one in so many changes that with each step.
	live   []int
	change int
	// How often it was mixed, and how often somebody was skipped.
	mixed, skipped int
}

// newPlay: a play with a new ring, of so many IDs.
func newPlay(seed uint64, ids, change int) *play {
	return &play{s: draw.New(seed), r: New(seed ^ 0xabc), p: &plain{s: draw.New(seed ^ 0xabc)}, ids: ids, change: change}
}

// below draws a number below n.
func (g *play) below(n int) int {
	k, s := g.s.Below(n)
	g.s = s
	return k
}

// turn lets one that is live go, or one come that is not.
func (g *play) turn() {
	id := g.below(g.ids)
	if i := slices.Index(g.live, id); i >= 0 {
		g.live = slices.Delete(g.live, i, i+1)
		return
	}
	g.live = slices.Insert(g.live, g.below(len(g.live)+1), id)
}

// step does one thing, and answers whether both did the same.
func (g *play) step() bool {
	if g.below(g.change) == 0 {
		g.turn()
	}
	if g.below(5) == 0 {
		k := g.below(g.ids+4) - 2
		return slices.Equal(g.r.Some(g.live, k), g.p.some(g.live, k))
	}
	state, left := g.p.s, len(g.p.left)
	id, ok := g.r.Next(g.live)
	want, wantOK := g.p.next(g.live)
	switch {
	case state != g.p.s:
		g.mixed++
	case ok && len(g.p.left) < left-1:
		g.skipped++
	}
	return id == want && ok == wantOK && (!ok || slices.Contains(g.live, id))
}

// same: do the two stand alike, with no more left than there are IDs?
func (g *play) same() bool {
	left := slices.Clone(g.p.left)
	slices.Reverse(left)
	return slices.Equal(g.r.Left(), left) && g.r.State() == g.p.s.State && len(left) <= g.ids
}

// P13.1, T3: whatever is done, a ring does as the plain one, and no more are left than were mixed.
func TestAsThePlainOne(t *testing.T) {
	mixed, skipped := 0, 0
	for _, x := range []struct{ ids, change int }{{1, 2}, {2, 3}, {4, 1}, {5, 9}, {12, 2}, {12, 30}, {32, 1}, {32, 4}, {32, 50}, {60, 3}} {
		for seed := range uint64(6) {
			g := newPlay(seed*7919+uint64(x.ids), x.ids, x.change)
			for i := range 1000 {
				if !g.step() || !g.same() {
					t.Fatalf("%v, seed %d, step %d: %v, %x, want %v backward, %x", x, seed, i, g.r.Left(), g.r.State(), g.p.left, g.p.s.State)
				}
			}
			mixed, skipped = mixed+g.mixed, skipped+g.skipped
		}
	}
	if mixed < 1000 || skipped < 1000 {
		t.Errorf("the plays hold too little: %d mixings, %d skips", mixed, skipped)
	}
}

// P4: two rings to which the same is done are the same, and neither has anything of the other.
func TestSameAgain(t *testing.T) {
	g, h := newPlay(99, 9, 3), newPlay(99, 9, 3)
	for range 700 {
		if !g.step() || !h.step() || !slices.Equal(g.r.Left(), h.r.Left()) || g.r.State() != h.r.State() {
			t.Fatal(g.r.Left(), h.r.Left())
		}
	}
}

// P1: a long list, of which none is left over and over, comes to an end.
func TestLongLists(t *testing.T) {
	r, long := New(1), count(5000)
	for k := range 3 {
		id := -1 - k
		r.Next(long)
		if len(r.Left()) != 4999 {
			t.Fatalf("%d are left", len(r.Left()))
		}
		state := r.State()
		wantNext(t, r, []int{id}, id)
		wantRing(t, r, state)
	}
}
