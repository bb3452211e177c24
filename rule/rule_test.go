package rule

import (
	"math"
	"slices"
	"testing"

	"scuttlebutt/addr"
)

// typeCase: a right type, its word, and of each right type (in the order of
// cases) whether it is Through, x being this one, and whether they Punch.
type typeCase struct {
	kind           Type
	word           string
	through, punch string
}

// cases: all nine right types; what is told of them was worked out by hand.
func cases() []typeCase {
	return []typeCase{
		{Type{0, 0}, "any/any", "yyyy--y--", "yyyyyyyyy"},
		{Type{0, 1}, "any/host", "yyyy--y--", "yyyyyyyyy"},
		{Type{0, 2}, "any/both", "yyyy--y--", "yyy------"},
		{Type{1, 0}, "host/any", "yy-y--y--", "yy-yy-yy-"},
		{Type{1, 1}, "host/host", "yy-y--y--", "yy-y--y--"},
		{Type{1, 2}, "host/both", "yy-y--y--", "yy-------"},
		{Type{2, 0}, "both/any", "yy-y--y--", "yy-yy-yy-"},
		{Type{2, 1}, "both/host", "yy-y--y--", "yy-y--y--"},
		{Type{2, 2}, "both/both", "yy-y--y--", "yy-------"},
	}
}

// notKinds: what no kind is, some of which would be one if bits were lost.
func notKinds() []int {
	return []int{-1, -2, -3, 3, 4, 5, 6, 255, 256, 257, 258, 1 << 32, 1<<32 + 1, 1<<32 + 2, math.MaxInt64, math.MaxInt64 - 1, math.MinInt64, math.MinInt64 + 1, math.MinInt64 + 2}
}

// notRight: types that nearly are right, just one part of which is amiss, and some of which both are.
func notRight() []Type {
	l := []Type{}
	for _, wrong := range notKinds() {
		for kind := range 3 {
			l = append(l, Type{Map: kind, Filter: wrong}, Type{Map: wrong, Filter: kind})
		}
		l = append(l, Type{Map: wrong, Filter: wrong}, Type{Map: wrong, Filter: -wrong})
	}
	return l
}

// all: right types, and those that are not.
func all() []Type {
	l := notRight()
	for _, c := range cases() {
		l = append(l, c.kind)
	}
	return l
}

// The chapter's face: the kinds are these numbers.
func TestKinds(t *testing.T) {
	if kinds := [...]int{Any, Host, Both}; kinds != [...]int{0, 1, 2} {
		t.Error(kinds)
	}
}

// P7.1, P6: right is a Type whose Map and Filter are 0 to 2; none else, of any 64 bits.
func TestRight(t *testing.T) {
	for _, c := range cases() {
		if !Right(c.kind) {
			t.Errorf("%v: not right", c.kind)
		}
	}
	for _, kind := range notRight() {
		if Right(kind) {
			t.Errorf("%v: right", kind)
		}
	}
	for m := -40; m <= 300; m++ {
		for f := -40; f <= 300; f++ {
			if got, want := Right(Type{Map: m, Filter: f}), 0 <= m && m <= 2 && 0 <= f && f <= 2; got != want {
				t.Errorf("%d, %d: %v", m, f, got)
			}
		}
	}
}

// addrs: ordinary addresses, those that have a part of another one, and those that are None, or at their ends.
func addrs() []addr.Addr {
	return []addr.Addr{
		{IP: 0x0a000001, Port: 80}, {IP: 0x0a000001, Port: 81}, {IP: 0x0a000002, Port: 80}, {IP: 0x0a000002, Port: 81}, {IP: 80, Port: 80}, {IP: 1 << 16, Port: 1},
		{}, {IP: 0x0a000001}, {Port: 80}, {IP: 1}, {Port: 1}, {IP: math.MaxUint32}, {Port: math.MaxUint16}, {IP: math.MaxUint32, Port: math.MaxUint16}, {IP: 1 << 31, Port: 1 << 15},
	}
}

// P7.1: by Map alone, whatever the Filter: nothing, the IP of dst, dst; and nothing of what is no Map.
func TestKey(t *testing.T) {
	for _, dst := range addrs() {
		for _, filter := range append(notKinds(), Any, Host, Both) {
			wants := [...]addr.Addr{{}, {IP: dst.IP}, dst}
			for kind, want := range wants {
				if got := Key(Type{Map: kind, Filter: filter}, dst); got != want {
					t.Errorf("Key of Map %d, Filter %d, %v: %v, want %v", kind, filter, dst, got, want)
				}
			}
			for _, wrong := range notKinds() {
				if got := Key(Type{Map: wrong, Filter: filter}, dst); got != (addr.Addr{}) {
					t.Errorf("Key of Map %d, Filter %d, %v: %v", wrong, filter, dst, got)
				}
			}
		}
	}
}

// passCase: a met and a src, and of each Filter from 0 to 2 whether src passes.
type passCase struct {
	met  []addr.Addr
	src  addr.Addr
	want string
}

// passes: src in met at each of its ends, by its IP alone, by its Port alone, by parts of two, and not at all.
func passes() []passCase {
	a, otherPort, otherIP, neither := addr.Addr{IP: 1, Port: 2}, addr.Addr{IP: 1, Port: 3}, addr.Addr{IP: 4, Port: 2}, addr.Addr{IP: 4, Port: 3}
	last := addr.Addr{IP: math.MaxUint32, Port: math.MaxUint16}
	return []passCase{
		{nil, a, "y--"},
		{[]addr.Addr{}, a, "y--"},
		{nil, addr.Addr{}, "y--"},
		{[]addr.Addr{a}, a, "yyy"},
		{[]addr.Addr{a}, otherPort, "yy-"},
		{[]addr.Addr{a}, otherIP, "y--"},
		{[]addr.Addr{a}, neither, "y--"},
		{[]addr.Addr{a}, addr.Addr{IP: 2, Port: 1}, "y--"},
		{[]addr.Addr{a, neither}, a, "yyy"},
		{[]addr.Addr{neither, a}, a, "yyy"},
		{[]addr.Addr{neither, a, last}, a, "yyy"},
		{[]addr.Addr{a, a, a}, a, "yyy"},
		{[]addr.Addr{neither, last, otherPort}, a, "yy-"},
		{[]addr.Addr{otherPort, last, neither}, a, "yy-"},
		{[]addr.Addr{otherPort, otherIP}, a, "yy-"},
		{[]addr.Addr{otherIP, neither, last}, a, "y--"},
		{[]addr.Addr{{}, last, a}, last, "yyy"},
		{[]addr.Addr{{IP: math.MaxUint32, Port: 1}}, last, "yy-"},
		{[]addr.Addr{{IP: 1, Port: math.MaxUint16}}, last, "y--"},
		{[]addr.Addr{{}}, addr.Addr{}, "yyy"},
		{[]addr.Addr{{Port: 1}}, addr.Addr{}, "yy-"},
		{[]addr.Addr{{IP: 1}}, addr.Addr{}, "y--"},
		{[]addr.Addr{{}}, a, "y--"},
		{[]addr.Addr{a}, addr.Addr{}, "y--"},
		{[]addr.Addr{a}, addr.Addr{IP: 1}, "yy-"},
		{[]addr.Addr{a}, addr.Addr{Port: 2}, "y--"},
	}
}

// P7.2, P3: by Filter alone, whatever the Map; by what is no Filter nothing passes; met stays as it was.
func TestPasses(t *testing.T) {
	for _, c := range passes() {
		was := slices.Clone(c.met)
		for _, kind := range append(notKinds(), Any, Host, Both) {
			for filter := range 3 {
				if got, want := Passes(Type{Map: kind, Filter: filter}, c.met, c.src), c.want[filter] == 'y'; got != want {
					t.Errorf("Map %d, Filter %d, %v, %v: %v", kind, filter, c.met, c.src, got)
				}
			}
			for _, wrong := range notKinds() {
				if Passes(Type{Map: kind, Filter: wrong}, c.met, c.src) {
					t.Errorf("Map %d, Filter %d, %v, %v: passes", kind, wrong, c.met, c.src)
				}
			}
		}
		if !slices.Equal(c.met, was) {
			t.Errorf("%v became %v", was, c.met)
		}
	}
}

// P7.2: a long met is gone through to its end.
func TestPassesLong(t *testing.T) {
	met := []addr.Addr{}
	for i := range uint32(1000) {
		met = append(met, addr.Addr{IP: i + 1, Port: uint16(i + 1)})
	}
	for _, src := range met {
		if !Passes(Type{Filter: Host}, met, src) || !Passes(Type{Filter: Both}, met, src) {
			t.Errorf("%v: does not pass", src)
		}
		if other := (addr.Addr{IP: src.IP, Port: src.Port + 1}); !Passes(Type{Filter: Host}, met, other) || Passes(Type{Filter: Both}, met, other) {
			t.Errorf("%v: by another port", other)
		}
	}
	if src := (addr.Addr{IP: 1001, Port: 1}); Passes(Type{Filter: Host}, met, src) || Passes(Type{Filter: Both}, met, src) {
		t.Errorf("%v: passes", src)
	}
}

// P7.3: of all pairs of right types what the chapter tells.
func TestThrough(t *testing.T) {
	for _, x := range cases() {
		for k, y := range cases() {
			if got, want := Through(x.kind, y.kind), x.through[k] == 'y'; got != want {
				t.Errorf("Through(%s, %s): %v", x.word, y.word, got)
			}
		}
	}
}

// P7.3: of all pairs of right types what the chapter tells.
func TestPunch(t *testing.T) {
	for _, x := range cases() {
		for k, y := range cases() {
			if got, want := Punch(x.kind, y.kind), x.punch[k] == 'y'; got != want {
				t.Errorf("Punch(%s, %s): %v", x.word, y.word, got)
			}
		}
	}
	if strict := (Type{Map: Both, Filter: Both}); Punch(strict, strict) {
		t.Error("the chapter's example")
	}
}

// P7.3: nothing goes through, or is punched, if one of the two is not right.
func TestNotRightGoesNowhere(t *testing.T) {
	for _, wrong := range notRight() {
		for _, other := range all() {
			if Through(wrong, other) || Through(other, wrong) {
				t.Errorf("%v, %v: through", wrong, other)
			}
			if Punch(wrong, other) || Punch(other, wrong) {
				t.Errorf("%v, %v: punched", wrong, other)
			}
		}
	}
}

// P7.5: Punch is the same both ways, of types that are not right too.
func TestPunchBothWays(t *testing.T) {
	for _, x := range all() {
		for _, y := range all() {
			if Punch(x, y) != Punch(y, x) {
				t.Errorf("%v, %v", x, y)
			}
		}
	}
}

// side: a box of one who sends, by Key, and lets in, by Passes; of each binding the key, and whom its inside met.
type side struct {
	kind Type
	ip   uint32
	keys []addr.Addr
	met  [][]addr.Addr
}

// out: where what is sent to dst comes from, to those outside.
func (s *side) out(dst addr.Addr) addr.Addr {
	key := Key(s.kind, dst)
	place := slices.Index(s.keys, key)
	if place < 0 {
		place = len(s.keys)
		s.keys, s.met = append(s.keys, key), append(s.met, nil)
	}
	s.met[place] = append(s.met[place], dst)
	return addr.Addr{IP: s.ip, Port: uint16(place + 1)}
}

// in: does what comes from src to dst, an address that out told, get in?
func (s *side) in(dst, src addr.Addr) bool { return Passes(s.kind, s.met[dst.Port-1], src) }

// meet: does what x's sends to y's get in, and does the answer come in too, when y's sent toward x's first?
func meet(x, y Type) (bool, bool) {
	third := addr.Addr{IP: 3, Port: 3}
	a, b := &side{kind: x, ip: 1}, &side{kind: y, ip: 2}
	fromA, fromB := a.out(third), b.out(third)
	b.out(fromA)
	src := a.out(fromB)
	if !b.in(fromB, src) {
		return false, false
	}
	return true, a.in(src, b.out(src))
}

// P7.3: Through and Punch are what comes of two boxes that go by Key and Passes.
func TestAsBoxesDo(t *testing.T) {
	for _, x := range cases() {
		for _, y := range cases() {
			through, answered := meet(x.kind, y.kind)
			_, back := meet(y.kind, x.kind)
			if got := Through(x.kind, y.kind); got != through {
				t.Errorf("Through(%s, %s): %v", x.word, y.word, got)
			}
			if got := Punch(x.kind, y.kind); got != (answered || back) {
				t.Errorf("Punch(%s, %s): %v", x.word, y.word, got)
			}
		}
	}
}

// P7.4: the words of Map and Filter, with / between; nothing of a type that is not right.
func TestWord(t *testing.T) {
	for _, c := range cases() {
		if got := Word(c.kind); got != c.word {
			t.Errorf("%v: %q", c.kind, got)
		}
	}
	for _, kind := range notRight() {
		if got := Word(kind); got != "" {
			t.Errorf("%v: %q", kind, got)
		}
	}
}

// P4: what is answered hangs on the arguments alone: all calls, asked anew in another order, answer the same.
func TestSameAgain(t *testing.T) {
	type answer struct {
		right, through, punch, passes bool
		key                           addr.Addr
		word                          string
	}
	met := addrs()[:3]
	ask := func(x, y Type) answer {
		return answer{Right(x), Through(x, y), Punch(x, y), Passes(x, met, met[2]), Key(x, met[0]), Word(x)}
	}
	first := map[[2]Type]answer{}
	for _, x := range all() {
		for _, y := range all() {
			first[[2]Type{x, y}] = ask(x, y)
		}
	}
	for _, y := range all() {
		for _, x := range all() {
			if got := ask(x, y); got != first[[2]Type{x, y}] {
				t.Errorf("%v, %v: %v", x, y, got)
			}
		}
	}
}
