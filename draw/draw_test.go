package draw

import (
	"math"
	"slices"
	"testing"
)

// The numbers below come from a reckoning of the chapter's words outside of this program.

// seeds: what the tests of every list and every stream go through; the last one's first number is 0.
var seeds = []uint64{0, 1, 42, 1234567, math.MaxUint64, 0x61c8864680b583eb}

// count: the list 0, 1 .. n-1.
func count(n int) []int {
	l := make([]int, n)
	for i := range l {
		l[i] = i
	}
	return l
}

// sorted: l, rising, in new memory.
func sorted(l []int) []int {
	l = slices.Clone(l)
	slices.Sort(l)
	return l
}

// P1.1: a new stream's State is the seed, whatever the seed.
func TestNewIsTheSeed(t *testing.T) {
	for _, seed := range seeds {
		if s := New(seed); s.State != seed {
			t.Errorf("New(%x): State %x", seed, s.State)
		}
	}
}

// P1.1: the numbers, and the states behind them, of ordinary seeds and of those at the edges, where the sum wraps.
func TestNextNumbers(t *testing.T) {
	for _, c := range []struct {
		seed    uint64
		numbers []uint64
		after   uint64
	}{
		{0, []uint64{0xe220a8397b1dcdaf, 0x6e789e6aa1b965f4, 0x06c45d188009454f, 0xf88bb8a8724c81ec, 0x1b39896a51a8749b}, 0x1715609f7c746c69},
		{1, []uint64{0x910a2dec89025cc1, 0xbeeb8da1658eec67, 0xf893a2eefb32555e, 0x71c18690ee42c90b, 0x71bb54d8d101b5b9}, 0x1715609f7c746c6a},
		{1234567, []uint64{6457827717110365317, 3203168211198807973, 9817491932198370423, 4593380528125082431, 16408922859458223821}, 0x1715609f7c8742f0},
		{math.MaxUint64, []uint64{0xe4d971771b652c20, 0xe99ff867dbf682c9, 0x382ff84cb27281e9, 0x6d1db36ccba982d2, 0xb4a0472e578069ae}, 0x1715609f7c746c68},
		{0x61c8864680b583eb, []uint64{0, 0xe220a8397b1dcdaf, 0x6e789e6aa1b965f4, 0x06c45d188009454f, 0xf88bb8a8724c81ec}, 0x78dde6e5fd29f054},
	} {
		s := New(c.seed)
		for i, want := range c.numbers {
			got, next := s.Next()
			if got != want {
				t.Errorf("seed %x, number %d: %x, want %x", c.seed, i, got, want)
			}
			if next.State != s.State+0x9e3779b97f4a7c15 {
				t.Errorf("seed %x, number %d: next State %x", c.seed, i, next.State)
			}
			s = next
		}
		if s.State != c.after {
			t.Errorf("seed %x: State %x behind all, want %x", c.seed, s.State, c.after)
		}
	}
}

// P1.1: a Stream may be any, also one that New did not give out.
func TestNextOfAnyStream(t *testing.T) {
	if got, next := (Stream{}).Next(); got != 0xe220a8397b1dcdaf || next.State != 0x9e3779b97f4a7c15 {
		t.Errorf("%x %x", got, next.State)
	}
	if got, next := (Stream{State: math.MaxUint64}).Next(); got != 0xe4d971771b652c20 || next.State != 0x9e3779b97f4a7c14 {
		t.Errorf("%x %x", got, next.State)
	}
}

// P1.2: below 1 nothing is drawn: 0, and the same stream.
func TestBelowNothing(t *testing.T) {
	for _, seed := range seeds {
		for _, n := range []int{0, -1, -2, -1000, math.MinInt64 + 1, math.MinInt64} {
			if k, s := New(seed).Below(n); k != 0 || s != New(seed) {
				t.Errorf("seed %x, Below(%d): %d, %x", seed, n, k, s.State)
			}
		}
	}
}

// P1.2: Next, modulo n: of a number above the greatest int too; and of 1 a number is drawn.
func TestBelowNumbers(t *testing.T) {
	for _, c := range []struct {
		seed    uint64
		n, want int
	}{
		{0, 1, 0}, {0, 2, 1}, {0, 7, 2}, {0, 10, 5}, {0, 1 << 62, 2459150361376443823}, {0, math.MaxInt64, 7070836379803831728},
		{1, 1, 0}, {1, 7, 2}, {1, 1 << 62, 1227844342346046657}, {1, math.MaxInt64, 1227844342346046658},
		{42, 2, 1}, {42, 7, 5}, {42, 10, 3}, {42, 1 << 62, 4456085495900499605}, {42, math.MaxInt64, 4456085495900499606},
		{0x61c8864680b583eb, 5, 0},
	} {
		got, after := New(c.seed).Below(c.n)
		if got != c.want {
			t.Errorf("seed %d, Below(%d): %d, want %d", c.seed, c.n, got, c.want)
		}
		if _, next := New(c.seed).Next(); after != next {
			t.Errorf("seed %d, Below(%d): stream %x, want %x", c.seed, c.n, after.State, next.State)
		}
	}
}

// mixCase: a list, what it is mixed to by the stream of a seed, and the State behind that.
type mixCase struct {
	seed       uint64
	list, want []int
	after      uint64
}

// mixes: lists, and what they are mixed to.
func mixes() []mixCase {
	return []mixCase{
		{0, []int{1, 2}, []int{1, 2}, 0x9e3779b97f4a7c15},
		{0, []int{1, 2, 3}, []int{3, 1, 2}, 0x3c6ef372fe94f82a},
		{0, []int{1, 2, 3, 4, 5, 6, 7, 8}, []int{3, 6, 1, 4, 5, 7, 2, 8}, 0x538454127b096493},
		{0, count(12), []int{4, 1, 6, 8, 0, 5, 2, 3, 11, 9, 10, 7}, 0xcc623af8783354e7},
		{1, []int{1, 2, 3, 4, 5, 6, 7, 8}, []int{5, 4, 3, 8, 6, 7, 1, 2}, 0x538454127b096494},
		{1, []int{5, 5, -1, 5, 0}, []int{-1, 5, 0, 5, 5}, 0x78dde6e5fd29f055},
		{42, []int{1, 2, 3}, []int{1, 3, 2}, 0x3c6ef372fe94f854},
		{42, count(12), []int{9, 6, 7, 10, 3, 11, 4, 2, 0, 8, 5, 1}, 0xcc623af878335511},
		{math.MaxUint64, []int{1, 2}, []int{2, 1}, 0x9e3779b97f4a7c14},
		{math.MaxUint64, []int{1, 2, 3, 4, 5, 6, 7, 8}, []int{8, 4, 6, 5, 3, 7, 2, 1}, 0x538454127b096492},
	}
}

// P1.2: from the last place down to place 1 each is exchanged with what is drawn for it.
func TestMixLists(t *testing.T) {
	for _, c := range mixes() {
		got, s := New(c.seed).Mix(c.list)
		if !slices.Equal(got, c.want) || s.State != c.after {
			t.Errorf("seed %x, Mix(%v): %v, %x; want %v, %x", c.seed, c.list, got, s.State, c.want, c.after)
		}
	}
}

// P1.2: of nothing, and of one alone, nothing is drawn.
func TestMixOfNoneAndOne(t *testing.T) {
	for _, seed := range seeds {
		for _, l := range [][]int{nil, {}, {9}, {-9}} {
			if got, s := New(seed).Mix(l); !slices.Equal(got, l) || s != New(seed) {
				t.Errorf("seed %x, Mix(%v): %v, %x", seed, l, got, s.State)
			}
		}
	}
}

// P1.2: the first k of what is mixed: all if there are less, none if k is below 1; always the stream behind Mix.
func TestSomeIsTheFirstOfMix(t *testing.T) {
	for _, c := range mixes() {
		n := len(c.list)
		for k := -2; k <= n+2; k++ {
			got, s := New(c.seed).Some(c.list, k)
			if want := c.want[:min(max(k, 0), n)]; !slices.Equal(got, want) || s.State != c.after {
				t.Errorf("seed %x, Some(%v, %d): %v, %x; want %v, %x", c.seed, c.list, k, got, s.State, want, c.after)
			}
		}
	}
}

// P1.2, P6: a k of any 64 bits.
func TestSomeOfAnyNumber(t *testing.T) {
	for _, c := range mixes() {
		for _, k := range []int{math.MaxInt64, math.MaxInt64 - 1, 1 << 32, 1 << 31} {
			if got, s := New(c.seed).Some(c.list, k); !slices.Equal(got, c.want) || s.State != c.after {
				t.Errorf("seed %x, Some(%v, %d): %v, %x", c.seed, c.list, k, got, s.State)
			}
		}
		for _, k := range []int{math.MinInt64, math.MinInt64 + 1, -1 << 32, -1} {
			if got, s := New(c.seed).Some(c.list, k); len(got) != 0 || s.State != c.after {
				t.Errorf("seed %x, Some(%v, %d): %v, %x", c.seed, c.list, k, got, s.State)
			}
		}
	}
	for _, l := range [][]int{nil, {}} {
		for _, k := range []int{math.MinInt64, -1, 0, 1, math.MaxInt64} {
			if got, s := New(3).Some(l, k); len(got) != 0 || s != New(3) {
				t.Errorf("Some(%v, %d): %v, %x", l, k, got, s.State)
			}
		}
	}
	if got, s := New(3).Some([]int{7}, 1); !slices.Equal(got, []int{7}) || s != New(3) {
		t.Errorf("Some of one: %v, %x", got, s.State)
	}
}

// P1.3, P4: the same stream draws the same, whatever was drawn of it, or of another one, in between.
func TestSameStreamDrawsTheSame(t *testing.T) {
	for _, seed := range seeds {
		s, l := New(seed), count(20)
		number, next := s.Next()
		below, behind := s.Below(17)
		mixed, last := s.Mix(l)
		some, end := s.Some(l, 5)
		New(seed ^ 99).Mix(l)
		if n, u := s.Next(); n != number || u != next {
			t.Errorf("seed %x: Next %x, then %x", seed, number, n)
		}
		if k, u := s.Below(17); k != below || u != behind {
			t.Errorf("seed %x: Below %d, then %d", seed, below, k)
		}
		if m, u := s.Mix(l); !slices.Equal(m, mixed) || u != last {
			t.Errorf("seed %x: Mix %v, then %v", seed, mixed, m)
		}
		if m, u := s.Some(l, 5); !slices.Equal(m, some) || u != end {
			t.Errorf("seed %x: Some %v, then %v", seed, some, m)
		}
		if s != New(seed) {
			t.Errorf("seed %x: the stream itself went on to %x", seed, s.State)
		}
	}
}

// P1.3: mixed, a list has what it had, as often as it had it; whatever the list's length.
func TestMixedHasWhatItHad(t *testing.T) {
	for _, seed := range seeds {
		for _, l := range [][]int{nil, {7}, {7, 7}, {3, -3, 3, math.MaxInt64, math.MinInt64, 0, 0}, count(100), count(1000)} {
			s := New(seed)
			for range 5 {
				var m []int
				m, s = s.Mix(l)
				if !slices.Equal(sorted(m), sorted(l)) {
					t.Fatalf("seed %x: Mix(%v): %v", seed, l, m)
				}
			}
		}
	}
}

// P1.3: what goes on behind a mixing is what goes on behind a draw less than the list is long.
func TestMixDrawsOnePlaceLess(t *testing.T) {
	for n := 1; n < 40; n++ {
		s := New(uint64(n))
		for range n - 1 {
			_, s = s.Next()
		}
		if _, got := New(uint64(n)).Mix(count(n)); got != s {
			t.Errorf("%d: %x, want %x", n, got.State, s.State)
		}
	}
}

// P3: what is handed in is not written into, nor what stands behind it in its array.
func TestArgumentsStay(t *testing.T) {
	for _, seed := range seeds {
		array := count(20)
		New(seed).Mix(array[2:9])
		for _, k := range []int{-1, 0, 3, 7, 99} {
			New(seed).Some(array[2:9], k)
		}
		if !slices.Equal(array, count(20)) {
			t.Fatalf("seed %x: %v", seed, array)
		}
	}
}

// P3: what is answered is new memory, spare room too: writing there changes neither what was handed in nor another answer.
func TestAnswersAreNewMemory(t *testing.T) {
	spoil := func(l []int) {
		l = l[:cap(l)]
		for i := range l {
			l[i] = -77
		}
	}
	for _, n := range []int{1, 2, 7} {
		array := count(20)
		for _, k := range []int{0, 1, n, n + 5} {
			mixed, _ := New(4).Mix(array[:n])
			kept := slices.Clone(mixed)
			some, _ := New(4).Some(array[:n], k)
			spoil(some)
			if !slices.Equal(mixed, kept) {
				t.Fatalf("%d of %d: what was answered ahead is now %v", k, n, mixed)
			}
			spoil(mixed)
			if !slices.Equal(array, count(20)) {
				t.Fatalf("%d of %d: what was handed in is now %v", k, n, array)
			}
			if again, _ := New(4).Mix(array[:n]); !slices.Equal(again, kept) {
				t.Fatalf("%d of %d: the same stream now mixes to %v", k, n, again)
			}
		}
	}
}
