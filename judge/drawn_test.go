package judge

import (
	"fmt"
	"math"
	"slices"
	"strings"
	"testing"

	"scuttlebutt/addr"
	"scuttlebutt/draw"
	"scuttlebutt/record"
)

// dice: what lists are drawn by.
type dice struct{ s draw.Stream }

// throw: a number below n.
func (d *dice) throw(n int) int {
	k, after := d.s.Below(n)
	d.s = after
	return k
}

// record: one of an ID up to ids, or around that, of few Incs and addresses, so that many are alike.
func (d *dice) record(ids int) record.Record {
	r := record.Record{ID: 1 + d.throw(ids), State: d.throw(4), Inc: uint32(d.throw(3)), Addr: addr.Addr{IP: uint32(1 + d.throw(2)), Port: 1}}
	if d.throw(12) == 0 {
		r.ID = []int{0, -1, ids + 1, math.MaxInt64, math.MinInt64}[d.throw(5)]
	}
	if d.throw(20) == 0 {
		r.State = []int{-1, 4, math.MaxInt64, math.MinInt64}[d.throw(4)]
	}
	return r
}

// list: up to most records; now and then one ID comes more than once.
func (d *dice) list(ids, most int) []record.Record {
	var l []record.Record
	for range d.throw(most + 1) {
		l = append(l, d.record(ids))
	}
	return l
}

// lists: so many lists.
func (d *dice) lists(n, ids, most int) [][]record.Record {
	var l [][]record.Record
	for range n {
		l = append(l, d.list(ids, most))
	}
	return l
}

// above: a list of each ID in l, and others, mostly not below it.
func (d *dice) above(l []record.Record, ids int) []record.Record {
	var out []record.Record
	for _, r := range l {
		r.Inc += uint32(d.throw(2))
		if d.throw(8) == 0 {
			r.State = d.throw(4)
		}
		out = append(out, r)
	}
	return append(d.list(ids, 1), append(out, d.list(ids, 3)...)...)
}

// firstOf: the place of the first of that ID, or -1.
func firstOf(l []record.Record, id int) int {
	for i, r := range l {
		if r.ID == id {
			return i
		}
	}
	return -1
}

// risesByHand: Rises, done otherwise: without the layer's order.
func risesByHand(a, b []record.Record) bool {
	for _, r := range a {
		i := firstOf(b, r.ID)
		if i < 0 {
			return false
		}
		is := [4]int{int(b[i].Inc), b[i].State, int(b[i].Addr.IP), int(b[i].Addr.Port)}
		was := [4]int{int(r.Inc), r.State, int(r.Addr.IP), int(r.Addr.Port)}
		if slices.Compare(is[:], was[:]) < 0 {
			return false
		}
	}
	return true
}

// strangerByHand: Stranger, done otherwise: by what there is of each Inc, and of each record.
func strangerByHand(l []record.Record, told [][]record.Record) int {
	incs, whole := map[[2]int]bool{}, map[string]bool{}
	for i, own := range told {
		for _, r := range own {
			incs[[2]int{i + 1, int(r.Inc)}] = true
			whole[fmt.Sprint(i+1, r)] = true
		}
	}
	for i, r := range l {
		known := incs[[2]int{r.ID, int(r.Inc)}]
		if known && r.State == 0 {
			known = whole[fmt.Sprint(r.ID, r)]
		}
		if !known {
			return i
		}
	}
	return -1
}

// wrongByHand: Wrong, done otherwise: as the promise's three cases tell.
func wrongByHand(views [][]record.Record, up []bool) []Pair {
	var l []Pair
	for v := range up {
		for k := range up {
			if !up[v] || k == v {
				continue
			}
			i, live := -1, false
			if v < len(views) {
				if i = firstOf(views[v], k+1); i >= 0 {
					live = views[v][i].State == 0 || views[v][i].State == 1
				}
			}
			if i < 0 && up[k] || i >= 0 && live && !up[k] || i >= 0 && !live && up[k] {
				l = append(l, Pair{v + 1, k + 1})
			}
		}
	}
	return l
}

// P22.1: of lists that are drawn, Rises is what it is by hand; both answers come often.
func TestRisesDrawn(t *testing.T) {
	d := &dice{draw.New(221)}
	seen := map[bool]int{}
	for range 20000 {
		a := d.list(4, 4)
		b := d.list(4, 8)
		if d.throw(2) == 0 {
			b = d.above(a, 4)
		}
		want := risesByHand(a, b)
		seen[want && len(a) > 1]++
		if got := Rises(a, b); got != want {
			t.Fatalf("Rises(%v, %v): %v, want %v", a, b, got, want)
		}
	}
	if seen[true] < 1000 || seen[false] < 1000 {
		t.Error(seen)
	}
}

// P22.1: of lists that are drawn, Stranger is what it is by hand; all places come often.
func TestStrangerDrawn(t *testing.T) {
	d := &dice{draw.New(222)}
	seen := map[int]int{}
	for range 20000 {
		ids := 1 + d.throw(3)
		told := d.lists(d.throw(ids+2), ids, 9)
		for id, own := range told {
			for k := range own {
				// Mostly of the one in whose place it stands.
				if d.throw(8) > 0 {
					own[k].ID = id + 1
				}
			}
		}
		l := d.list(ids, 4)
		want := strangerByHand(l, told)
		seen[want]++
		if got := Stranger(l, told); got != want {
			t.Fatalf("Stranger(%v, %v): %d, want %d", l, told, got, want)
		}
	}
	for place := -1; place < 3; place++ {
		if seen[place] < 100 {
			t.Error(seen)
		}
	}
}

// P22.2: of views that are drawn, Wrong is what it is by hand.
func TestWrongDrawn(t *testing.T) {
	d := &dice{draw.New(223)}
	pairs := 0
	for range 10000 {
		up := make([]bool, d.throw(7))
		for i := range up {
			up[i] = d.throw(3) > 0
		}
		views := d.lists(d.throw(8), 6, 9)
		want := wrongByHand(views, up)
		pairs += len(want)
		if got := Wrong(views, up); !slices.Equal(got, want) {
			t.Fatalf("Wrong(%v, %v): %v, want %v", views, up, got, want)
		}
	}
	if pairs < 10000 {
		t.Error(pairs)
	}
}

// P22.3: of lists that are drawn, Text is what it is by hand.
func TestTextDrawn(t *testing.T) {
	d := &dice{draw.New(224)}
	words := map[int]string{0: "alive", 1: "suspect", 2: "dead", 3: "left"}
	for range 5000 {
		l := d.list(32, 9)
		want := ""
		for _, r := range l {
			want += fmt.Sprintf("%d:%s@%d ", r.ID, words[r.State], r.Inc)
		}
		if want = strings.TrimSuffix(want, " "); Text(l) != want {
			t.Fatalf("Text(%v): %q, want %q", l, Text(l), want)
		}
	}
}

// P22.4: what rises twice rises: from the first to the last.
func TestRisesTwice(t *testing.T) {
	d := &dice{draw.New(225)}
	twice := 0
	for range 20000 {
		a := d.list(4, 4)
		b := d.above(a, 4)
		c := d.above(b, 4)
		if !Rises(a, b) || !Rises(b, c) {
			continue
		}
		if len(a) > 0 {
			twice++
		}
		if !Rises(a, c) {
			t.Fatalf("from %v to %v to %v, but not from the first to the last", a, b, c)
		}
	}
	if twice < 1000 {
		t.Error(twice)
	}
}

// P22.4: of all lists of one ID, of at most two records each, that there are of three records.
func TestRisesTwiceAll(t *testing.T) {
	few := list(rec(1, alive, 0), rec(1, dead, 0), rec(1, alive, 1))
	all := [][]record.Record{nil}
	for _, x := range few {
		all = append(all, list(x))
		for _, y := range few {
			all = append(all, list(x, y))
		}
	}
	for _, a := range all {
		for _, b := range all {
			for _, c := range all {
				if Rises(a, b) && Rises(b, c) && !Rises(a, c) {
					t.Errorf("from %v to %v to %v", a, b, c)
				}
			}
		}
	}
}

// roomy: l, with room behind it in which something stands.
func roomy(l []record.Record) []record.Record {
	return append(slices.Clone(l), rec(9, left, 9), rec(9, left, 9))[:len(l)]
}

// roomyAll: each of l so.
func roomyAll(l [][]record.Record) [][]record.Record {
	var out [][]record.Record
	for _, x := range l {
		out = append(out, roomy(x))
	}
	return out
}

// P3, P4: nothing that is handed in is written into, nor what stands behind it; asked again it is the same, and new memory.
func TestHandedIn(t *testing.T) {
	d := &dice{draw.New(226)}
	for range 500 {
		a, views := roomy(d.list(4, 5)), roomyAll(d.lists(4, 4, 5))
		b := roomy(d.above(a, 4))
		up := []bool{true, d.throw(2) > 0, true, d.throw(2) > 0, true, true}[:4]
		face := func() string {
			return fmt.Sprint(Rises(a, b), Stranger(a, views), Wrong(views, up), Text(a), Text(b))
		}
		all := func() string {
			s := fmt.Sprint(a[:cap(a)], b[:cap(b)], views, up[:6])
			for _, v := range views {
				s += fmt.Sprint(v[:cap(v)])
			}
			return s
		}
		was, first := all(), face()
		pairs := Wrong(views, up)
		for i := range pairs[:cap(pairs)] {
			pairs[:cap(pairs)][i] = Pair{-7, -7}
		}
		if got := face(); got != first {
			t.Fatalf("asked again: %s, was %s", got, first)
		}
		if got := all(); got != was {
			t.Fatalf("handed in: %s, was %s", got, was)
		}
	}
}

// P1: long lists end too, and soon.
func TestLong(t *testing.T) {
	const n = 200000
	var up, down []record.Record
	for i := range n {
		up = append(up, rec(i+1, alive, 1))
		down = append(down, rec(n-i, dead, 1))
	}
	if !Rises(up, down) || Rises(down, up) {
		t.Error("Rises")
	}
	there := make([]bool, n)
	there[0], there[n-1] = true, true
	if got := Wrong([][]record.Record{up[:1], nil}, there); !slices.Equal(got, []Pair{{1, n}, {n, 1}}) {
		t.Error(got)
	}
	if got := Wrong([][]record.Record{append(down[:n-1:n-1], rec(n, alive, 1))}, there[:1]); len(got) != 0 {
		t.Error(got)
	}
	if got := Text(up[:3]); got != "1:alive@1 2:alive@1 3:alive@1" || len(Text(up)) < 9*n {
		t.Error(got)
	}
}
