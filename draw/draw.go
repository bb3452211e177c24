// Package draw is layer 1: see shared/doc/01-draw.md.
package draw

// Stream is a place in a sequence of numbers: drawing from it gives out the
// place behind the draw, so that whoever keeps an old Stream draws the same.
type Stream struct{ State uint64 }

// The numbers of P1.1: what a state is moved by, and what its bits are spread by.
const (
	stride       = 0x9e3779b97f4a7c15
	firstSpread  = 0xbf58476d1ce4e5b9
	secondSpread = 0x94d049bb133111eb
)

// New answers the stream that begins at seed.
func New(seed uint64) Stream { return Stream{State: seed} }

// Next draws a number of 64 bits.
func (s Stream) Next() (uint64, Stream) {
	s.State += stride
	n := s.State
	n = (n ^ n>>30) * firstSpread
	n = (n ^ n>>27) * secondSpread
	return n ^ n>>31, s
}

// Below draws a number from 0 to n - 1; where there is none, nothing is drawn.
func (s Stream) Below(n int) (int, Stream) {
	if n < 1 {
		return 0, s
	}
	number, after := s.Next()
	// Modulo ahead of int: of a number above the greatest int it would be below 0.
	return int(number % uint64(n)), after
}

// Mix answers l in an order that is drawn; l stays as it is.
func (s Stream) Mix(l []int) ([]int, Stream) {
	mixed := make([]int, len(l))
	copy(mixed, l)
	place, other := len(mixed)-1, 0
again:
	// Place 0 has nobody left to be exchanged with: it would draw for nothing.
	if place < 1 {
		return mixed, s
	}
	other, s = s.Below(place + 1)
	mixed[place], mixed[other] = mixed[other], mixed[place]
	place--
	goto again
}

// Some answers k of l that are drawn, and the stream behind the mixing of all
// of l, however many are asked for: so what is drawn later does not hang on k.
func (s Stream) Some(l []int, k int) ([]int, Stream) {
	mixed, after := s.Mix(l)
	k = min(max(k, 0), len(mixed))
	return mixed[:k:k], after
}
