package judge

import (
	"math"
	"slices"
	"testing"

	"scuttlebutt/addr"
	"scuttlebutt/record"
)

// The states, in short.
const (
	alive   = record.Alive
	suspect = record.Suspect
	dead    = record.Dead
	left    = record.Left
)

// home: where the nodes of these tests are.
var home = addr.Addr{IP: 0x0a000001, Port: 7000}

// rec: a record at home.
func rec(id, state int, inc uint32) record.Record {
	return record.Record{ID: id, State: state, Inc: inc, Addr: home}
}

// at: that record at another address.
func at(r record.Record, ip uint32, port uint16) record.Record {
	r.Addr = addr.Addr{IP: ip, Port: port}
	return r
}

// list: these, in short.
func list(l ...record.Record) []record.Record { return l }

// oddIDs: numbers that no node has.
func oddIDs() []int {
	return []int{0, -1, -2, -33, 33, 34, 255, 257, 1 << 32, 1<<32 + 1, math.MaxInt64, math.MinInt64, math.MinInt64 + 1}
}

// oddStates: numbers that are no state.
func oddStates() []int {
	return []int{-1, -2, -4, 4, 5, 255, 256, 257, 1 << 32, 1<<32 + 1, math.MaxInt64, math.MinInt64, math.MinInt64 + 1}
}

// risesCase: what Rises is to answer.
type risesCase struct {
	a, b []record.Record
	want bool
}

// wantRises: Rises must answer just so.
func wantRises(t *testing.T, l []risesCase) {
	t.Helper()
	for i, c := range l {
		if got := Rises(c.a, c.b); got != c.want {
			t.Errorf("%d: Rises(%v, %v): %v, want %v", i, c.a, c.b, got, c.want)
		}
	}
}

// P22.1: it rises where each that was known is known still, of an Inc, a State, an Addr that are not below; in whatever order they stand.
func TestRises(t *testing.T) {
	wantRises(t, []risesCase{
		{nil, nil, true},
		{list(), list(), true},
		{nil, list(rec(1, alive, 0)), true},
		{list(rec(1, alive, 0)), nil, false},
		{list(rec(1, alive, 0)), list(rec(2, alive, 9)), false},
		{list(rec(1, alive, 0)), list(rec(1, alive, 0)), true},
		{list(rec(1, alive, 0)), list(rec(1, alive, 1)), true},
		{list(rec(1, alive, 1)), list(rec(1, alive, 0)), false},
		{list(rec(1, alive, 0)), list(rec(1, suspect, 0)), true},
		{list(rec(1, suspect, 0)), list(rec(1, alive, 0)), false},
		{list(rec(1, left, 0)), list(rec(1, alive, 1)), true},
		{list(rec(1, alive, 1)), list(rec(1, left, 0)), false},
		{list(rec(1, left, math.MaxUint32)), list(rec(1, left, math.MaxUint32)), true},
		{list(rec(1, left, math.MaxUint32)), list(rec(1, dead, math.MaxUint32)), false},
		{list(rec(1, alive, 0)), list(rec(1, alive, math.MaxUint32)), true},
		{list(rec(1, alive, math.MaxUint32)), list(rec(1, alive, 0)), false},
		{list(rec(1, alive, 0), rec(2, dead, 3)), list(rec(2, left, 3), rec(1, alive, 0), rec(3, alive, 0)), true},
		{list(rec(1, alive, 0), rec(2, dead, 3)), list(rec(2, alive, 3), rec(1, alive, 7)), false},
		{list(rec(1, alive, 0), rec(2, dead, 3)), list(rec(1, alive, 7)), false},
		{list(rec(2, dead, 3), rec(1, alive, 0)), list(rec(1, alive, 7)), false},
	})
}

// P22.1: of the same Inc and State it goes by the address, its IP ahead of its port.
func TestRisesByAddr(t *testing.T) {
	rising := list(record.Record{ID: 1}, at(rec(1, alive, 0), 0, 9), at(rec(1, alive, 0), 1, 0), at(rec(1, alive, 0), 1, 1), at(rec(1, alive, 0), 1, math.MaxUint16), at(rec(1, alive, 0), 2, 1), at(rec(1, alive, 0), math.MaxUint32, 0))
	for i, a := range rising {
		for k, b := range rising {
			wantRises(t, []risesCase{{list(a), list(b), i <= k}})
		}
	}
}

// P22.1: the first of an ID in b counts alone, whatever stands behind it; of a each is held against it.
func TestRisesTwiceTheSame(t *testing.T) {
	low, mid, high := rec(1, alive, 0), rec(1, suspect, 0), rec(1, alive, 2)
	other := rec(2, left, 9)
	wantRises(t, []risesCase{
		{list(mid), list(low, high), false},
		{list(mid), list(high, low), true},
		{list(mid), list(other, low, high), false},
		{list(mid), list(other, high, low), true},
		{list(mid), list(mid, low, low), true},
		{list(mid), list(low, mid, mid), false},
		{list(low, mid), list(low), false},
		{list(mid, low), list(low), false},
		{list(low, other, mid), list(other, low, mid), false},
		{list(low, mid, high), list(high), true},
		{list(high, mid, low), list(mid), false},
		{list(low, low), list(low), true},
		// Not even of itself, where what stands first is not the last.
		{list(low, high), list(low, high), false},
		{list(high, low), list(high, low), true},
	})
}

// P22.1, P1, P6: IDs and States may be any of 64 bits: a record need not be right.
func TestRisesOdd(t *testing.T) {
	for _, id := range oddIDs() {
		wantRises(t, []risesCase{
			{list(rec(id, alive, 0)), list(rec(id, alive, 0)), true},
			{list(rec(id, alive, 1)), list(rec(id, alive, 0)), false},
			{list(rec(id, alive, 0)), list(rec(1, alive, 0), rec(2, alive, 0)), false},
			{list(rec(id, alive, 0)), list(rec(-id-1, alive, 0), rec(id^1, left, 9)), false},
		})
	}
	for _, state := range oddStates() {
		wantRises(t, []risesCase{
			{list(rec(1, state, 0)), list(rec(1, state, 0)), true},
			{list(rec(1, state, 0)), list(rec(1, alive, 0)), state < 0},
			{list(rec(1, left, 0)), list(rec(1, state, 0)), state > 3},
			{list(rec(1, state, 0)), list(rec(1, alive, 1)), true},
		})
	}
	// Nobody is not the zero record: also what is below that, or is it, must be known.
	for _, r := range list(record.Record{}, record.Record{ID: 1}, rec(1, -1, 0), rec(1, math.MinInt64, 0)) {
		wantRises(t, []risesCase{{list(r), nil, false}, {list(r), list(rec(2, left, 9)), false}, {list(r), list(r), true}})
	}
}

// told: what two nodes told of themselves, and a third one that told nothing.
func told() [][]record.Record {
	return [][]record.Record{
		{rec(1, alive, 0), at(rec(1, alive, 3), 9, 9), rec(1, left, 4)},
		{rec(2, alive, 1), at(rec(2, alive, 1), 8, 8)},
		nil,
	}
}

// wantStranger: Stranger must answer that place.
func wantStranger(t *testing.T, l []record.Record, told [][]record.Record, want int) {
	t.Helper()
	if got := Stranger(l, told); got != want {
		t.Errorf("Stranger(%v, %v): %d, want %d", l, told, got, want)
	}
}

// The document's example: of nobody.
func TestStrangerOfNobody(t *testing.T) {
	for _, l := range [][]record.Record{nil, {}} {
		for _, k := range [][][]record.Record{nil, {}, {nil}, told()} {
			wantStranger(t, l, k, -1)
		}
	}
}

// P22.1: none is a stranger that is of an Inc its node told, and, where it is alive, just what that told.
func TestStrangerNone(t *testing.T) {
	for _, r := range list(
		rec(1, alive, 0), at(rec(1, alive, 3), 9, 9), rec(2, alive, 1), at(rec(2, alive, 1), 8, 8),
		// Beside Alive the Inc counts alone: neither the State nor the Addr.
		rec(1, suspect, 0), rec(1, dead, 0), rec(1, left, 0), rec(1, suspect, 3), at(rec(1, dead, 3), 1, 1),
		rec(1, left, 4), rec(1, dead, 4), rec(1, suspect, 4), rec(2, left, 1),
		record.Record{ID: 1, State: suspect, Inc: 3}, record.Record{ID: 2, State: left, Inc: 1},
		rec(1, 4, 3), rec(1, -1, 3), rec(1, math.MaxInt64, 4), rec(2, math.MinInt64, 1),
	) {
		wantStranger(t, list(r), told(), -1)
		wantStranger(t, list(rec(1, alive, 0), r, r), told(), -1)
	}
}

// P22.1: who told nothing of that Inc is a stranger in every state; who is alive also where it told something else of that Inc.
func TestStrangerOne(t *testing.T) {
	l := list(
		rec(1, alive, 1), rec(1, suspect, 1), rec(1, dead, 2), rec(1, left, 5), rec(1, left, math.MaxUint32),
		rec(2, alive, 0), rec(2, suspect, 0), rec(2, left, 2), rec(2, suspect, 3), rec(2, dead, 4),
		rec(3, alive, 0), rec(3, suspect, 0), rec(3, left, 0), rec(1, 4, 1), rec(1, -1, 2),
		// Of that Inc, but at another address, or not alive.
		rec(1, alive, 3), at(rec(1, alive, 0), 9, 9), at(rec(1, alive, 3), 9, 8), at(rec(1, alive, 3), 8, 9),
		rec(1, alive, 4), record.Record{ID: 1, Inc: 3}, record.Record{ID: 1}, at(rec(2, alive, 1), 9, 9),
	)
	for _, r := range l {
		wantStranger(t, list(r), told(), 0)
		wantStranger(t, list(rec(2, alive, 1), r), told(), 1)
		wantStranger(t, list(rec(2, dead, 1), rec(1, alive, 0), r, rec(1, alive, 0)), told(), 2)
	}
	// It is the first that is told.
	wantStranger(t, l, told(), 0)
	wantStranger(t, list(rec(1, alive, 0), rec(3, alive, 0), rec(9, alive, 0), rec(1, alive, 7)), told(), 1)
}

// P22.1, P6: an ID that nobody's told stands at is a stranger's, of any 64 bits.
func TestStrangerOddID(t *testing.T) {
	for _, id := range append(oddIDs(), 4, 5) {
		for state := alive; state <= left; state++ {
			wantStranger(t, list(rec(id, state, 0)), told(), 0)
			wantStranger(t, list(rec(1, state, 0), rec(2, suspect, 1), rec(id, state, 1)), told(), 2)
		}
	}
	for n := range 5 {
		wantStranger(t, list(rec(n+1, suspect, 1)), make([][]record.Record, n), 0)
		all := make([][]record.Record, n+1)
		all[n] = list(rec(n+1, alive, 1))
		wantStranger(t, list(rec(n+1, suspect, 1)), all, -1)
		wantStranger(t, list(rec(n+1, suspect, 1)), all[:n], 0)
	}
	// Above MaxNodes too: what counts is how many told there are.
	all := make([][]record.Record, 40)
	all[39] = list(rec(40, alive, 1))
	wantStranger(t, list(rec(40, alive, 1)), all, -1)
}

// P22.1: where a record stands in told counts, for its Inc; the same is only what is the same in all, its ID too.
func TestStrangerOfAnother(t *testing.T) {
	mixed := [][]record.Record{{rec(2, alive, 5)}, {rec(1, alive, 6), rec(2, alive, 6)}}
	wantStranger(t, list(rec(1, suspect, 5)), mixed, -1)
	wantStranger(t, list(rec(1, alive, 5)), mixed, 0)
	wantStranger(t, list(rec(2, suspect, 5)), mixed, 0)
	wantStranger(t, list(rec(2, alive, 5)), mixed, 0)
	wantStranger(t, list(rec(2, alive, 6)), mixed, -1)
	wantStranger(t, list(rec(1, alive, 6)), mixed, 0)
}

// wantWrong: Wrong must answer just these, in this order.
func wantWrong(t *testing.T, views [][]record.Record, up []bool, want ...Pair) {
	t.Helper()
	if got := Wrong(views, up); !slices.Equal(got, want) {
		t.Errorf("Wrong(%v, %v): %v, want %v", views, up, got, want)
	}
}

// P22.2: of one who is up, and of one who is not, in each state, and unknown.
func TestWrongEach(t *testing.T) {
	for _, c := range []struct {
		view   []record.Record
		there  bool
		amiss  bool
		remark string
	}{
		{nil, true, true, "unknown, but there"},
		{nil, false, false, "unknown, and not there"},
		{list(rec(2, alive, 0)), true, false, "alive, and there"},
		{list(rec(2, alive, 0)), false, true, "alive, but not there"},
		{list(rec(2, suspect, 0)), true, false, "suspect, and there"},
		{list(rec(2, suspect, 0)), false, true, "suspect, but not there"},
		{list(rec(2, dead, 0)), true, true, "dead, but there"},
		{list(rec(2, dead, 0)), false, false, "dead, and not there"},
		{list(rec(2, left, 0)), true, true, "left, but there"},
		{list(rec(2, left, 0)), false, false, "left, and not there"},
		{list(rec(3, alive, 0), rec(-2, alive, 0)), true, true, "others alone are known"},
		{list(rec(3, alive, 0), rec(-2, alive, 0)), false, false, "others alone are known"},
		{list(record.Record{ID: 2}), true, false, "alive, nowhere"},
		{list(record.Record{}), true, true, "the zero record is of no ID"},
	} {
		got := Wrong([][]record.Record{c.view}, []bool{true, c.there})
		if c.there {
			// The second one, who has no view, knows nobody.
			if n := len(got); n == 0 || got[n-1] != (Pair{Viewer: 2, ID: 1}) {
				t.Errorf("%s: %v", c.remark, got)
				continue
			}
			got = got[:len(got)-1]
		}
		var want []Pair
		if c.amiss {
			want = []Pair{{Viewer: 1, ID: 2}}
		}
		if !slices.Equal(got, want) {
			t.Errorf("%s: %v, want %v", c.remark, got, want)
		}
	}
	// A number that is no state is not Live.
	for _, state := range oddStates() {
		wantWrong(t, [][]record.Record{{rec(2, state, 0)}}, []bool{true, false})
		wantWrong(t, [][]record.Record{{rec(2, state, 0)}, {rec(1, alive, 0)}}, []bool{true, true}, Pair{1, 2})
	}
}

// P22.2: by Viewer, then by ID; who is not up is wrong of nobody, and nobody of itself.
func TestWrongOrder(t *testing.T) {
	know := list(rec(4, alive, 0), rec(2, dead, 0), rec(1, left, 0), rec(3, suspect, 0))
	views := [][]record.Record{know, know, know, know}
	wantWrong(t, views, []bool{true, true, false, false}, Pair{1, 2}, Pair{1, 3}, Pair{1, 4}, Pair{2, 1}, Pair{2, 3}, Pair{2, 4})
	wantWrong(t, views, []bool{false, false, true, true})
	wantWrong(t, views, []bool{false, true, false, true}, Pair{2, 3}, Pair{4, 2}, Pair{4, 3})
	wantWrong(t, views, []bool{true, true, true, true}, Pair{1, 2}, Pair{2, 1}, Pair{3, 1}, Pair{3, 2}, Pair{4, 1}, Pair{4, 2})
	wantWrong(t, views, []bool{false, false, false, false})
	// Of itself nobody is wrong, whatever it knows of itself, and be it nothing.
	wantWrong(t, [][]record.Record{{rec(1, dead, 0)}}, []bool{true})
	wantWrong(t, [][]record.Record{{}}, []bool{true})
	wantWrong(t, [][]record.Record{{rec(1, left, 0), rec(2, alive, 0)}, {rec(1, alive, 0)}}, []bool{true, true})
}

// P22.2: there are as many as up has places: who has no view knows nobody, and what views tell beyond that is nothing.
func TestWrongCounts(t *testing.T) {
	all := list(rec(1, alive, 0), rec(2, alive, 0), rec(3, alive, 0), rec(4, alive, 0))
	wantWrong(t, nil, nil)
	wantWrong(t, [][]record.Record{}, []bool{})
	wantWrong(t, [][]record.Record{all, all}, nil)
	wantWrong(t, [][]record.Record{all, all}, []bool{})
	wantWrong(t, nil, []bool{true})
	wantWrong(t, nil, []bool{false, false})
	wantWrong(t, nil, []bool{true, true}, Pair{1, 2}, Pair{2, 1})
	wantWrong(t, nil, []bool{true, false, true}, Pair{1, 3}, Pair{3, 1})
	wantWrong(t, [][]record.Record{all}, []bool{true, true, true}, Pair{2, 1}, Pair{2, 3}, Pair{3, 1}, Pair{3, 2})
	wantWrong(t, [][]record.Record{nil, all}, []bool{true, true, true}, Pair{1, 2}, Pair{1, 3}, Pair{3, 1}, Pair{3, 2})
	wantWrong(t, [][]record.Record{all, all, all, nil, nil}, []bool{true, true, true})
	// Of who is beyond up nothing is asked, though it is thought alive.
	wantWrong(t, [][]record.Record{all, all}, []bool{true, true})
	for _, id := range oddIDs() {
		wantWrong(t, [][]record.Record{{rec(id, alive, 0), rec(2, alive, 0)}, {rec(1, alive, 0), rec(id, alive, 0)}}, []bool{true, true})
	}
}

// P22.2: the first of an ID counts alone.
func TestWrongFirst(t *testing.T) {
	back := list(rec(1, alive, 0))
	there := []bool{true, true}
	wantWrong(t, [][]record.Record{{rec(2, alive, 0), rec(2, dead, 9)}, back}, there)
	wantWrong(t, [][]record.Record{{rec(2, dead, 0), rec(2, alive, 9)}, back}, there, Pair{1, 2})
	wantWrong(t, [][]record.Record{{rec(1, dead, 1), rec(2, left, 0), rec(3, alive, 0), rec(2, suspect, 9), rec(2, alive, 9)}, back}, there, Pair{1, 2})
	wantWrong(t, [][]record.Record{{rec(2, alive, 0), rec(2, dead, 9)}}, []bool{true, false}, Pair{1, 2})
	wantWrong(t, [][]record.Record{{rec(2, dead, 0), rec(2, alive, 9)}}, []bool{true, false})
}

// P22.2: there may be more than MaxNodes: it goes by how many places up has.
func TestWrongMany(t *testing.T) {
	const n = 70
	up := make([]bool, n)
	up[0], up[32], up[n-1] = true, true, true
	know := list(rec(1, alive, 0), rec(33, alive, 0), rec(n, alive, 0), rec(50, dead, 0))
	views := make([][]record.Record, n)
	views[0], views[32], views[n-1] = know, know[:2], know
	wantWrong(t, views, up, Pair{33, n})
	up[49] = true
	wantWrong(t, views, up, Pair{1, 50}, Pair{33, 50}, Pair{33, n}, Pair{50, 1}, Pair{50, 33}, Pair{50, n}, Pair{n, 50})
}

// P22.3: each record as words, with one space between two, and none around.
func TestText(t *testing.T) {
	for _, c := range []struct {
		l    []record.Record
		want string
	}{
		{nil, ""},
		{list(), ""},
		{list(rec(1, alive, 5)), "1:alive@5"},
		{list(rec(32, suspect, 0)), "32:suspect@0"},
		{list(rec(9, dead, 10)), "9:dead@10"},
		{list(rec(10, left, math.MaxUint32)), "10:left@4294967295"},
		{list(rec(7, alive, 1<<31)), "7:alive@2147483648"},
		{list(record.Record{}), "0:alive@0"},
		{list(rec(-1, alive, 1)), "-1:alive@1"},
		{list(rec(-120, left, 1000)), "-120:left@1000"},
		{list(rec(math.MaxInt64, alive, 1)), "9223372036854775807:alive@1"},
		{list(rec(math.MinInt64, alive, 1)), "-9223372036854775808:alive@1"},
		{list(rec(1<<32+1, dead, 1)), "4294967297:dead@1"},
		// In the order in which they stand, as often as they do.
		{list(rec(2, alive, 1), rec(1, dead, 0), rec(2, alive, 1)), "2:alive@1 1:dead@0 2:alive@1"},
		{list(rec(1, 4, 3), rec(2, -1, 3), rec(3, left, 0)), "1:@3 2:@3 3:left@0"},
		{list(record.Record{}, record.Record{}), "0:alive@0 0:alive@0"},
		// Where it is isn't told.
		{list(at(rec(3, alive, 2), 9, 9)), "3:alive@2"},
	} {
		if got := Text(c.l); got != c.want {
			t.Errorf("Text(%v): %q, want %q", c.l, got, c.want)
		}
	}
	for _, state := range oddStates() {
		if got := Text(list(rec(6, state, 70))); got != "6:@70" {
			t.Errorf("state %d: %q", state, got)
		}
	}
}
