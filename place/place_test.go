package place

import (
	"encoding/binary"
	"math"
	"math/big"
	"slices"
	"strings"
	"testing"
)

// at: a place of whole numbers.
func at(x, y int) complex128 { return complex(float64(x), float64(y)) }

// minus: -0.
var minus = math.Copysign(0, -1)

// parts: the parts of right places: ordinary ones, those at an end, and those next to it.
var parts = []int{0, 1, -1, 2, -2, 3, 4, -5, 7, 255, -256, 257, 65535, -65536, 123456, -654321, Most - 1, Most, 1 - Most, -Most}

// notParts: what no part of a right place is.
func notParts() []float64 {
	l := []float64{math.NaN(), math.Inf(1), math.Inf(-1), math.MaxFloat64, math.SmallestNonzeroFloat64, math.Float64frombits(0x7ff0000000000001), math.Float64frombits(1<<52 - 1)}
	for _, x := range []float64{0.5, 0.1, 1.5, 2.25, 1 - 1e-16, 1 + 1e-15, 999999.5, 1000000.5, 1000001, 1000002, 1999999, 2000000, 16777216, 1 << 24, 1 << 31, 1<<31 + 1, 1 << 32, 1<<32 + 1, 1<<32 + 1000000, 1 << 53, 1 << 62, 1 << 63, 1 << 64, 1<<64 + 4096, 1e300} {
		l = append(l, x, -x)
	}
	for _, x := range []float64{Most, 1, 2, 500000, -1, -Most} {
		l = append(l, math.Nextafter(x, math.Inf(1)), math.Nextafter(x, math.Inf(-1)))
	}
	return l
}

// rights: places that are right, in whose parts there is no -0.
func rights() []complex128 {
	l := []complex128{}
	for _, x := range parts {
		for _, y := range parts {
			l = append(l, at(x, y))
		}
	}
	return l
}

// some: a few of those, among them all corners and middles of the sides.
func some() []complex128 {
	l := []complex128{}
	for _, x := range []int{0, 1, -3, 4, 65537, Most, -Most} {
		for _, y := range []int{0, -1, 2, -7, 999999, Most, -Most} {
			l = append(l, at(x, y))
		}
	}
	return l
}

// zeroCase: a place with a -0, and what stands for it.
type zeroCase struct{ odd, near complex128 }

// zeros: such places, with a -0 in either part, or in both.
func zeros() []zeroCase {
	return []zeroCase{
		{complex(minus, 0), 0}, {complex(0, minus), 0}, {complex(minus, minus), 0},
		{complex(minus, 5), at(0, 5)}, {complex(minus, -Most), at(0, -Most)}, {complex(-7, minus), at(-7, 0)}, {complex(Most, minus), at(Most, 0)},
	}
}

// notRights: places of which one part, or both, is amiss.
func notRights() []complex128 {
	l := []complex128{}
	for _, x := range notParts() {
		l = append(l, complex(x, 0), complex(0, x), complex(x, 3), complex(-4, x), complex(x, Most), complex(minus, x), complex(x, x))
	}
	return l
}

// same: is got the place want, to the bit? (By == a -0 is a 0.)
func same(got, want complex128) bool {
	return math.Float64bits(real(got)) == math.Float64bits(real(want)) && math.Float64bits(imag(got)) == math.Float64bits(imag(want))
}

// clean: is p right, with no -0?
func clean(p complex128) bool {
	for _, x := range []float64{real(p), imag(p)} {
		if !(math.Abs(x) <= 1e6) || math.Trunc(x) != x || x == 0 && math.Signbit(x) {
			return false
		}
	}
	return true
}

// thrower: numbers from 0 to n - 1, thrown by a rule.
func thrower() func(n int) int {
	state := uint64(1)
	return func(n int) int {
		state = state*6364136223846793005 + 1442695040888963407
		return int(state>>33) % n
	}
}

// thrown: n places, thrown up to most from 0.
func thrown(n, most int) []complex128 {
	throw := thrower()
	l := []complex128{}
	for range n {
		l = append(l, at(throw(2*most+1)-most, throw(2*most+1)-most))
	}
	return l
}

// The chapter's face: how far a part goes.
func TestMost(t *testing.T) {
	if Most != 1000000 {
		t.Error(Most)
	}
}

// P5.1: right are whole numbers from -Most to Most, in both parts; -0 counts as 0.
func TestRight(t *testing.T) {
	for _, p := range rights() {
		if !Right(p) {
			t.Errorf("%v: not right", p)
		}
	}
	for _, c := range zeros() {
		if !Right(c.odd) {
			t.Errorf("%v: not right", c.odd)
		}
	}
}

// P5.1: what has a part that is no whole number, or is beyond Most, or no number at all, is not right, whatever the other part is.
func TestNotRight(t *testing.T) {
	for _, p := range notRights() {
		if Right(p) {
			t.Errorf("%v: right", p)
		}
	}
}

// P5.1: every whole number from -Most to Most is a part; half between two of them is none.
func TestEveryPart(t *testing.T) {
	for x := -Most - 2; x <= Most+2; x++ {
		want := -1000000 <= x && x <= 1000000
		if Right(at(x, 0)) != want || Right(at(0, x)) != want || Right(complex(float64(x)+0.5, 0)) || Right(complex(0, float64(x)+0.5)) {
			t.Fatal(x)
		}
	}
}

// P5.1: near is a right place itself, with 0 for -0.
func TestNear(t *testing.T) {
	for _, p := range rights() {
		if got := Near(p); !same(got, p) {
			t.Errorf("%v: %v", p, got)
		}
	}
	for _, c := range zeros() {
		if got := Near(c.odd); !same(got, c.near) {
			t.Errorf("%v: %v, want %v", c.odd, got, c.near)
		}
	}
}

// P5.1: of what is not right near is 0, in both parts.
func TestNearOfNotRight(t *testing.T) {
	for _, p := range notRights() {
		if got := Near(p); !same(got, 0) {
			t.Errorf("%v: %v", p, got)
		}
	}
}

// P5.1: each call takes Near of each place that it is handed: what is not right counts as 0, -0 as 0; and what is answered is right, with no -0.
func TestAllTakeNear(t *testing.T) {
	odd := zeros()
	for _, p := range notRights() {
		odd = append(odd, zeroCase{p, 0})
	}
	for _, c := range odd {
		p, near := c.odd, c.near
		for _, q := range some() {
			if Far(p, q) != Far(near, q) || Far(q, p) != Far(q, near) {
				t.Errorf("Far of %v, %v", p, q)
			}
			for _, by := range []int{-1, 0, 1, 5, 999999, 2 * Most} {
				if there, back := Step(p, q, by), Step(q, p, by); !same(there, Step(near, q, by)) || !same(back, Step(q, near, by)) {
					t.Errorf("Step of %v, %v, %d: %v, %v", p, q, by, there, back)
				}
			}
			if got := Middle([]complex128{q, p, q}); !same(got, Middle([]complex128{q, near, q})) {
				t.Errorf("Middle of %v, %v: %v", q, p, got)
			}
		}
		if Far(p, p) != 0 || !same(Step(p, p, 7), near) || !same(Middle([]complex128{p}), near) || !same(Middle([]complex128{p, p}), near) {
			t.Errorf("%v with itself", p)
		}
		for quarters := -5; quarters <= 5; quarters++ {
			if got := Turn(p, quarters); !same(got, Turn(near, quarters)) {
				t.Errorf("Turn of %v by %d: %v", p, quarters, got)
			}
		}
		for _, of := range []complex128{p, near} {
			for _, second := range []complex128{p, near} {
				if got := Nearest(of, []complex128{500 + 500i, second, 300 - 300i, near, p}, 3); !slices.Equal(got, []int{1, 3, 4}) {
					t.Errorf("Nearest of %v, with %v: %v", of, second, got)
				}
			}
		}
	}
}

// P5.1, P5.2: of what is not right, in numbers written by hand.
func TestNotRightCountsAsNothing(t *testing.T) {
	nan := complex(math.NaN(), math.NaN())
	half := complex(8, 0.5)
	wide := complex(1000001, 2)
	for _, p := range []complex128{nan, half, wide, complex(minus, minus)} {
		if got := Far(p, at(3, 4)); got != 25 {
			t.Errorf("Far of %v: %d", p, got)
		}
		if got := Far(at(-6, 8), p); got != 100 {
			t.Errorf("Far to %v: %d", p, got)
		}
		if got := Turn(p, 1); !same(got, 0) {
			t.Errorf("Turn of %v: %v", p, got)
		}
		if got := Step(p, at(9, -9), 2); !same(got, at(2, -2)) {
			t.Errorf("Step of %v: %v", p, got)
		}
		if got := Step(at(9, -9), p, 2); !same(got, at(7, -7)) {
			t.Errorf("Step to %v: %v", p, got)
		}
		if got := Middle([]complex128{at(9, -9), p, at(3, -3)}); !same(got, at(4, -4)) {
			t.Errorf("Middle with %v: %v", p, got)
		}
		if got := Nearest(p, []complex128{at(5, 5), at(8, 0), p, at(1, 0)}, 9); !slices.Equal(got, []int{2, 3, 0, 1}) {
			t.Errorf("Nearest of %v: %v", p, got)
		}
	}
}

// P5.2: the square of the distance: the document's example, ordinary ones, and the farthest of all.
func TestFar(t *testing.T) {
	for _, c := range []struct {
		a, b complex128
		want uint64
	}{
		{0, 3 + 4i, 25}, {0, 0, 0}, {0, 1, 1}, {0, -1i, 1}, {1 + 1i, -1 - 1i, 8}, {2 - 3i, 7 + 9i, 169}, {at(-5, 0), at(0, 12), 169},
		{at(Most, 0), at(-Most, 0), 4000000000000}, {at(0, Most), at(0, -Most), 4000000000000},
		{at(Most, Most), at(-Most, -Most), 8000000000000}, {at(Most, -Most), at(-Most, Most), 8000000000000}, {at(Most, Most), at(-Most, 1-Most), 7999996000001},
		{at(999999, 1), at(-999998, 0), 3999988000010},
	} {
		if got := Far(c.a, c.b); got != c.want {
			t.Errorf("Far(%v, %v): %d, want %d", c.a, c.b, got, c.want)
		}
	}
}

// P5.2: of any two, reckoned in whole numbers; as far the one way as the other, and 0 of the same place alone.
func TestFarOfAny(t *testing.T) {
	for _, a := range rights() {
		for _, b := range rights() {
			x, y := int64(real(a))-int64(real(b)), int64(imag(a))-int64(imag(b))
			got := Far(a, b)
			if got != uint64(x*x+y*y) || got != Far(b, a) || (got == 0) != (a == b) {
				t.Fatalf("Far(%v, %v): %d", a, b, got)
			}
		}
	}
}

// P5.2: times i, as often as quarters modulo 4 tells; 0 to 3, below 0 too, of any 64 bits.
func TestTurn(t *testing.T) {
	for _, c := range []struct {
		quarters int
		want     complex128
	}{
		{0, 2 + 1i}, {1, -1 + 2i}, {2, -2 - 1i}, {3, 1 - 2i}, {4, 2 + 1i}, {5, -1 + 2i}, {6, -2 - 1i}, {7, 1 - 2i},
		{-1, 1 - 2i}, {-2, -2 - 1i}, {-3, -1 + 2i}, {-4, 2 + 1i}, {-5, 1 - 2i}, {-6, -2 - 1i}, {-7, -1 + 2i}, {-8, 2 + 1i},
		{1000001, -1 + 2i}, {-1000001, 1 - 2i}, {1 << 32, 2 + 1i}, {1<<32 + 1, -1 + 2i}, {-1<<32 - 1, 1 - 2i},
		{math.MaxInt64, 1 - 2i}, {math.MaxInt64 - 1, -2 - 1i}, {math.MaxInt64 - 3, 2 + 1i}, {math.MinInt64, 2 + 1i}, {math.MinInt64 + 1, -1 + 2i}, {math.MinInt64 + 3, 1 - 2i},
	} {
		if got := Turn(2+1i, c.quarters); !same(got, c.want) {
			t.Errorf("by %d: %v, want %v", c.quarters, got, c.want)
		}
	}
}

// P5.1, P5.2: each turn of each place, reckoned in whole numbers; where a part is 0 it is no -0.
func TestTurnOfAny(t *testing.T) {
	for _, p := range rights() {
		x, y := int(real(p)), int(imag(p))
		for quarters := -8; quarters <= 8; quarters++ {
			want := [...]complex128{at(x, y), at(-y, x), at(-x, -y), at(y, -x)}[(quarters+8)%4]
			if got := Turn(p, quarters); !same(got, want) {
				t.Errorf("%v by %d: %v, want %v", p, quarters, got, want)
			}
		}
	}
}

// noSteps: by how much nothing goes.
var noSteps = []int{0, -1, -2, -Most, -2 * Most, -1 << 31, -1<<32 + 1, math.MinInt64, math.MinInt64 + 1}

// allSteps: by how much everything goes all the way.
var allSteps = []int{2 * Most, 2*Most + 1, 1 << 31, 1 << 32, 1<<53 + 1, math.MaxInt64 - 1, math.MaxInt64}

// P5.2: each part went to the other's by at most by, for itself; none if by is below 1.
func TestStep(t *testing.T) {
	for _, c := range []struct {
		a, b complex128
		by   int
		want complex128
	}{
		{0, 5 - 2i, 1, 1 - 1i}, {0, 5 - 2i, 2, 2 - 2i}, {0, 5 - 2i, 3, 3 - 2i}, {0, 5 - 2i, 4, 4 - 2i}, {0, 5 - 2i, 5, 5 - 2i}, {0, 5 - 2i, 6, 5 - 2i},
		{5 - 2i, 0, 1, 4 - 1i}, {5 - 2i, 0, 3, 2}, {5 - 2i, 0, 5, 0},
		{7 + 7i, 7 - 7i, 10, 7 - 3i}, {7 + 7i, -7 + 7i, 10, -3 + 7i}, {-1 - 1i, 1 + 1i, 1, 0}, {-3 - 3i, -8 + 2i, 4, -7 + 1i},
		{at(-Most, Most), at(Most, -Most), 2*Most - 1, at(Most-1, 1-Most)}, {at(-Most, Most), at(Most, -Most), Most, 0}, {at(Most, Most), at(-Most, -Most), 1, at(Most-1, Most-1)},
		{at(Most, -Most), at(Most-1, 1-Most), 50, at(Most-1, 1-Most)},
	} {
		if got := Step(c.a, c.b, c.by); !same(got, c.want) {
			t.Errorf("Step(%v, %v, %d): %v, want %v", c.a, c.b, c.by, got, c.want)
		}
	}
	for _, a := range some() {
		for _, b := range some() {
			for _, by := range noSteps {
				if got := Step(a, b, by); !same(got, a) {
					t.Errorf("Step(%v, %v, %d): %v", a, b, by, got)
				}
			}
			for _, by := range allSteps {
				if got := Step(a, b, by); !same(got, b) {
					t.Errorf("Step(%v, %v, %d): %v", a, b, by, got)
				}
			}
		}
	}
}

// walk: where a part comes to that goes from x to y, one by one, by times.
func walk(x, y, by int) int {
	for range by {
		if x < y {
			x++
		} else if x > y {
			x--
		}
	}
	return x
}

// P5.2: of all places round 0, a step by so many is as many steps by one.
func TestStepIsAWalk(t *testing.T) {
	for x := -3; x <= 3; x++ {
		for y := -3; y <= 3; y++ {
			for u := -3; u <= 3; u++ {
				for v := -3; v <= 3; v++ {
					for by := -1; by <= 7; by++ {
						got, want := Step(at(x, y), at(u, v), by), at(walk(x, u, max(by, 0)), walk(y, v, max(by, 0)))
						if !same(got, want) {
							t.Fatalf("Step(%v, %v, %d): %v, want %v", at(x, y), at(u, v), by, got, want)
						}
					}
				}
			}
		}
	}
}

// P5.2: each part the sum of those of l, divided by how many there are, rounded down, below 0 too.
func TestMiddle(t *testing.T) {
	for i, c := range []struct {
		l    []complex128
		want complex128
	}{
		{nil, 0}, {[]complex128{}, 0}, {[]complex128{3 - 4i}, 3 - 4i}, {[]complex128{0}, 0},
		{[]complex128{1 - 1i, 2 - 2i}, 1 - 2i}, {[]complex128{0, 1 - 1i}, 0 - 1i}, {[]complex128{0, 0, 1 - 1i}, 0 - 1i}, {[]complex128{0, 0, 2 - 2i}, 0 - 1i}, {[]complex128{0, 0, 3 - 3i}, 1 - 1i}, {[]complex128{0, 0, 4 - 4i}, 1 - 2i},
		{[]complex128{5 + 5i, -5 - 5i}, 0}, {[]complex128{5 + 5i, -5 - 5i, 1i}, 0}, {[]complex128{5 + 5i, -5 - 5i, -1i}, -1i},
		{[]complex128{at(Most, -Most), at(Most, -Most)}, at(Most, -Most)}, {[]complex128{at(Most, -Most), at(Most-1, 1-Most)}, at(Most-1, -Most)}, {[]complex128{at(Most, Most), at(-Most, -Most), 7}, 2},
		{[]complex128{7, 7, 7, 7}, 7}, {[]complex128{1 + 10i, 2 + 20i, 3 + 30i, 4 + 41i}, 2 + 25i},
	} {
		if got := Middle(c.l); !same(got, c.want) {
			t.Errorf("%d: %v, want %v", i, got, c.want)
		}
	}
}

// P5.2: of thrown lists of many lengths, reckoned in numbers that have no end; and it is the same in another order.
func TestMiddleOfAny(t *testing.T) {
	for n := 1; n < 200; n++ {
		for _, most := range []int{1, 5, Most} {
			l := thrown(n, most)
			across, up := new(big.Int), new(big.Int)
			for _, p := range l {
				across.Add(across, big.NewInt(int64(real(p))))
				up.Add(up, big.NewInt(int64(imag(p))))
			}
			// big.Int.Div leaves a rest that is not below 0: of what is divided by more than 0 it is rounded down.
			across.Div(across, big.NewInt(int64(n)))
			up.Div(up, big.NewInt(int64(n)))
			want := at(int(across.Int64()), int(up.Int64()))
			if got := Middle(l); !same(got, want) {
				t.Fatalf("%d, up to %d: %v, want %v", n, most, got, want)
			}
			slices.Reverse(l)
			if got := Middle(l); !same(got, want) {
				t.Fatalf("%d, up to %d, from the end: %v, want %v", n, most, got, want)
			}
		}
	}
}

// P5.2: of a long list no place gets lost in the sum.
func TestMiddleOfMany(t *testing.T) {
	const n = 3000001
	l := slices.Repeat([]complex128{at(Most, -Most)}, n)
	if got := Middle(l); !same(got, at(Most, -Most)) {
		t.Error(got)
	}
	l[n/2] = at(Most-1, 1-Most)
	if got := Middle(l); !same(got, at(Most-1, -Most)) {
		t.Error(got)
	}
	l[n/2] = 7
	l[n/3] = complex(0.5, 0)
	if got := Middle(l); !same(got, at(Most-1, -Most)) {
		t.Error(got)
	}
}

// P5.2: where the k nearest stand, the nearest first, of the same the first; all if there are less, none if k is below 1.
func TestNearest(t *testing.T) {
	l := []complex128{3i, 1 + 1i, -3, 1 - 1i, 0}
	for _, c := range []struct {
		p    complex128
		l    []complex128
		k    int
		want []int
	}{
		{0, l, 1, []int{4}}, {0, l, 2, []int{4, 1}}, {0, l, 3, []int{4, 1, 3}}, {0, l, 4, []int{4, 1, 3, 0}}, {0, l, 5, []int{4, 1, 3, 0, 2}}, {0, l, 6, []int{4, 1, 3, 0, 2}}, {0, l, math.MaxInt64, []int{4, 1, 3, 0, 2}}, {0, l, 1 << 32, []int{4, 1, 3, 0, 2}},
		{0, l, 0, nil}, {0, l, -1, nil}, {0, l, -5, nil}, {0, l, math.MinInt64, nil}, {0, l, math.MinInt64 + 1, nil}, {0, l, -1<<32 + 1, nil},
		{0, nil, 3, nil}, {0, []complex128{}, 3, nil}, {0, nil, 0, nil}, {0, nil, -1, nil},
		{-3, l, 5, []int{2, 4, 1, 3, 0}}, {2 - 2i, l, 2, []int{3, 4}}, {at(Most, Most), l, 2, []int{0, 1}}, {at(-Most, -Most), []complex128{at(Most, Most), at(Most, Most-1)}, 2, []int{1, 0}},
		{1, []complex128{7, 7, 7, 7}, 3, []int{0, 1, 2}}, {0, []complex128{1, 1i, -1, -1i, 1, 0}, 4, []int{5, 0, 1, 2}}, {0, []complex128{5, 3 + 4i, -4 - 3i, 4i}, 9, []int{3, 0, 1, 2}},
	} {
		if got := Nearest(c.p, c.l, c.k); !slices.Equal(got, c.want) {
			t.Errorf("Nearest(%v, %v, %d): %v, want %v", c.p, c.l, c.k, got, c.want)
		}
	}
}

// search: where the k nearest stand, each looked for from the first on among those that are left.
func search(p complex128, l []complex128, k int) []int {
	found := []int{}
	for len(found) < min(k, len(l)) {
		best, least := -1, int64(math.MaxInt64)
		for i, q := range l {
			x, y := int64(real(p))-int64(real(q)), int64(imag(p))-int64(imag(q))
			if !slices.Contains(found, i) && x*x+y*y < least {
				best, least = i, x*x+y*y
			}
		}
		found = append(found, best)
	}
	return found
}

// P5.2: of thrown lists, in which many are as far, what is searched one by one.
func TestNearestOfAny(t *testing.T) {
	for _, n := range []int{1, 2, 3, 11, 12, 13, 20, 21, 40, 100, 150} {
		for _, most := range []int{0, 1, 3, 30, Most} {
			l := thrown(n, most)
			for _, p := range []complex128{0, l[0], l[n/2], at(Most, -Most), 1 - 2i} {
				all := search(p, l, n)
				for _, k := range []int{1, 2, 3, n / 2, n - 1, n, n + 1} {
					if got, want := Nearest(p, l, k), all[:max(min(k, n), 0)]; !slices.Equal(got, want) {
						t.Fatalf("%d, up to %d, Nearest(%v, %d): %v, want %v", n, most, p, k, got, want)
					}
				}
			}
		}
	}
}

// putCase: a place, and its bytes, written by hand.
type putCase struct {
	place complex128
	put   string
}

// putCases: ordinary places, and those of which a part is at its end, or a byte.
func putCases() []putCase {
	return []putCase{
		{0, "\x00\x0f\x42\x40\x00\x0f\x42\x40"},
		{1 - 1i, "\x00\x0f\x42\x41\x00\x0f\x42\x3f"},
		{at(-Most, -Most), "\x00\x00\x00\x00\x00\x00\x00\x00"},
		{at(Most, Most), "\x00\x1e\x84\x80\x00\x1e\x84\x80"},
		{at(-Most, Most), "\x00\x00\x00\x00\x00\x1e\x84\x80"},
		{at(1-Most, Most-1), "\x00\x00\x00\x01\x00\x1e\x84\x7f"},
		{at(256-Most, -Most), "\x00\x00\x01\x00\x00\x00\x00\x00"},
		{at(65536-Most, 258-Most), "\x00\x01\x00\x00\x00\x00\x01\x02"},
		{at(0x0d0c0b-Most, 3), "\x00\x0d\x0c\x0b\x00\x0f\x42\x43"},
		{at(-2, 0x1c1b1a-Most), "\x00\x0f\x42\x3e\x00\x1c\x1b\x1a"},
	}
}

// P5.3: four bytes of the real part and Most, four of the imaginary part and Most, the highest first; -0 as 0.
func TestPut(t *testing.T) {
	for _, c := range putCases() {
		if got, ok := Put(c.place); got != c.put || !ok {
			t.Errorf("%v: %x, %v; want %x", c.place, got, ok, c.put)
		}
	}
	for _, c := range zeros() {
		want, _ := Put(c.near)
		if got, ok := Put(c.odd); got != want || !ok || len(got) != 8 {
			t.Errorf("%v: %x, %v; want %x", c.odd, got, ok, want)
		}
	}
}

// P5.3, P2: what is not right has no bytes, though Near would have.
func TestPutOfNotRight(t *testing.T) {
	for _, p := range notRights() {
		if got, ok := Put(p); got != "" || ok {
			t.Errorf("%v: %x, %v", p, got, ok)
		}
	}
}

// P5.3: the place of eight bytes.
func TestGet(t *testing.T) {
	for _, c := range putCases() {
		if got, ok := Get(c.put); !same(got, c.place) || !ok {
			t.Errorf("%x: %v, %v; want %v", c.put, got, ok, c.place)
		}
	}
}

// P5.3, P2: of less than eight bytes, or of more, there is no place, and what is answered beside the false is nothing.
func TestGetOfNone(t *testing.T) {
	for _, c := range putCases() {
		put := c.put
		for cut := range len(put) {
			for _, s := range []string{put[:cut], put[cut+1:]} {
				if got, ok := Get(s); !same(got, 0) || ok {
					t.Errorf("%x: %v, %v", s, got, ok)
				}
			}
		}
		for _, s := range []string{put + "\x00", "\x00" + put, put + put, put + "\xff", "\x08" + put, put + strings.Repeat("\x00", 248), put + strings.Repeat("\x00", 1<<16)} {
			if got, ok := Get(s); !same(got, 0) || ok {
				t.Errorf("%d bytes: %v, %v", len(s), got, ok)
			}
		}
	}
}

// reckon: the place whose Put s is, by another way than the program's.
func reckon(s string) (complex128, bool) {
	if len(s) != 8 {
		return 0, false
	}
	x, y := binary.BigEndian.Uint32([]byte(s)), binary.BigEndian.Uint32([]byte(s[4:]))
	if x > 2000000 || y > 2000000 {
		return 0, false
	}
	return at(int(x)-1000000, int(y)-1000000), true
}

// hold: does Get answer of s what is reckoned, and Put of that s?
func hold(t *testing.T, s string) {
	t.Helper()
	want, is := reckon(s)
	got, ok := Get(s)
	if !same(got, want) || ok != is {
		t.Fatalf("%x: %v, %v; want %v, %v", s, got, ok, want, is)
	}
	if put, _ := Put(got); ok && put != s {
		t.Fatalf("%x: put as %x", s, put)
	}
}

// P5.3: a part above Most has none: right behind the end, far behind it, and where it would wrap; in each part.
func TestGetBeyond(t *testing.T) {
	number := func(n uint32) string { return string(binary.BigEndian.AppendUint32(nil, n)) }
	for _, n := range []uint32{0, 1, Most, 2*Most - 1, 2 * Most, 2*Most + 1, 2*Most + 2, 3 * Most, 1 << 24, 1<<24 + 5, 1<<31 - 1, 1 << 31, 1<<31 + 5, math.MaxUint32 - Most, math.MaxUint32 - 1, math.MaxUint32} {
		for _, other := range []uint32{0, 7, Most, 2 * Most, 2*Most + 1, math.MaxUint32} {
			hold(t, number(n)+number(other))
			hold(t, number(other)+number(n))
		}
		if _, ok := Get(number(n) + number(Most)); ok != (n <= 2000000) {
			t.Errorf("%d: %v", n, ok)
		}
	}
}

// P5.3: of all bytes that are one away from a place's - changed, left out, put in between - just those are got that are a place's.
func TestGetOfChangedBytes(t *testing.T) {
	for _, c := range putCases() {
		put := c.put
		for i := range len(put) + 1 {
			for b := range 256 {
				one := string([]byte{byte(b)})
				hold(t, put[:i]+one+put[i:])
				if i < len(put) {
					hold(t, put[:i]+one+put[i+1:])
				}
			}
			if i < len(put) {
				hold(t, put[:i]+put[i+1:])
			}
		}
	}
}

// P5.3: what was put is got: every part, in either place; and bytes of two places differ.
func TestWhatWasPutIsGot(t *testing.T) {
	before := ""
	for x := -Most; x <= Most; x++ {
		p := at(x, x/2)
		put, ok := Put(p)
		got, is := Get(put)
		if !ok || !is || !same(got, p) || put <= before {
			t.Fatalf("%v: %x, %v, %v, %v", p, put, ok, got, is)
		}
		before = put
	}
	for _, p := range append(rights(), thrown(5000, Most)...) {
		put, ok := Put(p)
		if got, is := Get(put); !ok || !is || !same(got, p) || len(put) != 8 {
			t.Fatalf("%v: %x, %v, %v, %v", p, put, ok, got, is)
		}
	}
}

// P5.4: turned, all stay as far from one another; and so the same are nearest.
func TestTurnedStayAsFar(t *testing.T) {
	l := append(some(), complex(0.5, 2), complex(math.NaN(), 0), complex(minus, 4))
	for quarters := -4; quarters <= 4; quarters++ {
		turned := []complex128{}
		for _, p := range l {
			turned = append(turned, Turn(p, quarters))
		}
		for i, a := range l {
			for j, b := range l {
				if got := Far(turned[i], turned[j]); got != Far(a, b) {
					t.Errorf("%v, %v by %d: %d", a, b, quarters, got)
				}
			}
			if !slices.Equal(Nearest(turned[i], turned, len(l)), Nearest(a, l, len(l))) {
				t.Errorf("nearest of %v by %d", a, quarters)
			}
		}
	}
}

// P5.2, P5.4: turned by so many and by so many is turned by both; by four it is where it was.
func TestTurnsAddUp(t *testing.T) {
	for _, p := range some() {
		for first := -4; first <= 4; first++ {
			for second := -4; second <= 4; second++ {
				if got := Turn(Turn(p, first), second); !same(got, Turn(p, first+second)) {
					t.Errorf("%v by %d, %d: %v", p, first, second, got)
				}
			}
		}
	}
}

// between: is x neither below nor above both of a and b?
func between(x, a, b float64) bool { return min(a, b) <= x && x <= max(a, b) }

// P5.4: a step never goes beyond: each part stays between the two, goes by no more than by, and either all the way or just by that; nor is it farther than before.
func TestStepGoesNotBeyond(t *testing.T) {
	for _, a := range some() {
		for _, b := range some() {
			for _, by := range []int{1, 2, 3, 6, 65536, 999998, Most, Most + 1, 2*Most - 1, 2 * Most, math.MaxInt64} {
				got := Step(a, b, by)
				if !clean(got) || !between(real(got), real(a), real(b)) || !between(imag(got), imag(a), imag(b)) || Far(got, b) > Far(a, b) {
					t.Fatalf("Step(%v, %v, %d): %v", a, b, by, got)
				}
				x, y := math.Abs(real(got-a)), math.Abs(imag(got-a))
				if x > float64(by) || y > float64(by) || x < float64(by) && real(got) != real(b) || y < float64(by) && imag(got) != imag(b) {
					t.Fatalf("Step(%v, %v, %d): %v", a, b, by, got)
				}
			}
		}
	}
}

// P5.1, P1: whatever is handed in, of any bits, what is answered is right, with no -0, or in the list.
func TestAnyBits(t *testing.T) {
	throw := thrower()
	part := func() float64 {
		switch throw(4) {
		case 0:
			return math.Float64frombits(uint64(throw(1<<31))<<33 ^ uint64(throw(1<<31))<<11 ^ uint64(throw(1<<11)))
		case 1:
			return minus
		case 2:
			return float64(throw(5) - 2)
		}
		return float64(throw(2*Most+7) - Most - 3)
	}
	for range 50000 {
		a, b := complex(part(), part()), complex(part(), part())
		n := throw(1<<31) - 1<<30
		for _, got := range []complex128{Near(a), Turn(a, n), Step(a, b, n), Step(a, b, n%5), Middle([]complex128{a, b, complex(part(), part())}[:throw(4)])} {
			if !clean(got) {
				t.Fatalf("%v, %v, %d: %v", a, b, n, got)
			}
		}
		if Right(a) != (a == Near(a)) || Far(a, b) > 8e12 {
			t.Fatalf("%v, %v: %v, %d", a, b, Right(a), Far(a, b))
		}
		want := []int{1, 0, 2}
		if Near(a) == Near(b) {
			want = []int{0, 1, 2}
		}
		if got := Nearest(a, []complex128{b, a, b}, n%5); !slices.Equal(got, want[:min(max(n%5, 0), 3)]) {
			t.Fatalf("%v, %v, %d: %v", a, b, n%5, got)
		}
	}
}

// P3: lists that are handed in stay as they are, behind their end too; what is answered is new, its spare room too.
func TestListsStay(t *testing.T) {
	room := []complex128{4, complex(minus, 3), complex(0.5, 0), 2i, 9, 8, 7}
	was := slices.Clone(room)
	l := room[:4]
	middle, first := Middle(l), Nearest(1, l, 3)
	second := Nearest(1, l, 3)
	if len(first) != 3 || !slices.Equal(first, second) {
		t.Fatal(first, second)
	}
	kept := slices.Clone(second)
	for i := range first[:cap(first)] {
		first[:cap(first)][i] = -1
	}
	first = append(first, -2, -2, -2)
	if !slices.Equal(second, kept) || !slices.Equal(Nearest(1, l, 3), kept) || !same(Middle(l), middle) {
		t.Errorf("%v, %v", first, second)
	}
	for i := range room {
		if !same(room[i], was[i]) {
			t.Errorf("place %d: %v", i, room[i])
		}
	}
}
