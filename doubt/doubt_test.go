package doubt

import (
	"math"
	"slices"
	"testing"

	"scuttlebutt/api"
	"scuttlebutt/draw"
)

// notIDs: numbers that no node has.
func notIDs() []int {
	return []int{0, -1, -2, -32, -33, 33, 34, 64, 255, 256, 257, 1 << 32, 1<<32 + 1, math.MaxInt64, math.MinInt64, math.MinInt64 + 1}
}

// incs: Incs of all sizes, rising.
func incs() []uint32 {
	return []uint32{0, 1, 2, 7, 255, 256, 1 << 16, 1<<31 - 1, 1 << 31, math.MaxUint32 - 1, math.MaxUint32}
}

// notNows: times at which nobody begins to be suspected.
func notNows() []uint64 {
	return []uint64{1<<62 + 1, 1<<62 + 2, 1 << 63, 1<<63 + 1, math.MaxUint64 - 1000000, math.MaxUint64}
}

// notHolds: how long nobody is suspected.
func notHolds() []uint64 {
	return []uint64{0, 1000001, 1000002, 1 << 20, 1 << 32, 1<<32 + 1, 1 << 62, 1 << 63, 1<<63 + 1, math.MaxUint64}
}

// item: an Item, with whoever confirms it.
func item(id int, inc uint32, since, hold uint64, who ...int) Item {
	return Item{ID: id, Inc: inc, Since: since, Hold: hold, Who: who}
}

// sameItem: do they tell the same? A list of nothing may be nil, or empty.
func sameItem(x, y Item) bool {
	return x.ID == y.ID && x.Inc == y.Inc && x.Since == y.Since && x.Hold == y.Hold && slices.Equal(x.Who, y.Who)
}

// sameItems: likewise, of all in order.
func sameItems(l, m []Item) bool { return slices.EqualFunc(l, m, sameItem) }

// deep: l, with none of its memory.
func deep(l []Item) []Item {
	m := slices.Clone(l)
	for k := range m {
		m[k].Who = slices.Clone(m[k].Who)
	}
	return m
}

// made: a doubt in which these are suspected; who confirms does so in the order in which it stands.
func made(t *testing.T, l ...Item) *Doubt {
	t.Helper()
	d := New()
	if d == nil {
		t.Fatal("New: nil")
	}
	for _, x := range l {
		wantBegin(t, d, x, api.OK)
		for _, who := range x.Who {
			wantConfirm(t, d, x.ID, x.Inc, who, api.OK)
		}
	}
	return d
}

// stays: behind what is told to have done nothing, d must tell what it did.
func stays(t *testing.T, d *Doubt, was []Item, what ...any) {
	t.Helper()
	if now := d.Items(); !sameItems(now, was) {
		t.Fatalf("%v changed something: %v, was %v", what, now, was)
	}
}

// wantBegin: Begin must answer that; with an error nothing changes.
func wantBegin(t *testing.T, d *Doubt, x Item, want api.Errno) {
	t.Helper()
	was := d.Items()
	if e := d.Begin(x.ID, x.Inc, x.Since, x.Hold); e != want {
		t.Errorf("Begin(%d, %d, %d, %d): %d, want %d", x.ID, x.Inc, x.Since, x.Hold, e, want)
	}
	if want != api.OK {
		stays(t, d, was, "Begin", x)
	}
}

// wantConfirm: Confirm must answer that; with an error nothing changes.
func wantConfirm(t *testing.T, d *Doubt, id int, inc uint32, who int, want api.Errno) {
	t.Helper()
	was := d.Items()
	if e := d.Confirm(id, inc, who); e != want {
		t.Errorf("Confirm(%d, %d, %d): %d, want %d", id, inc, who, e, want)
	}
	if want != api.OK {
		stays(t, d, was, "Confirm", id, inc, who)
	}
}

// wantClear: Clear must answer that; with false nothing changes.
func wantClear(t *testing.T, d *Doubt, id int, inc uint32, want bool) {
	t.Helper()
	was := d.Items()
	if ok := d.Clear(id, inc); ok != want {
		t.Errorf("Clear(%d, %d): %v, want %v", id, inc, ok, want)
	}
	if !want {
		stays(t, d, was, "Clear", id, inc)
	}
}

// wantUntil: Until must be that.
func wantUntil(t *testing.T, d *Doubt, id int, want uint64) {
	t.Helper()
	if got, ok := d.Until(id); got != want || !ok {
		t.Errorf("Until(%d): %d, %v, want %d", id, got, ok, want)
	}
}

// wantItems: Items must be these, twice, and nobody else has an Until.
func wantItems(t *testing.T, d *Doubt, want ...Item) {
	t.Helper()
	for range 2 {
		if got := d.Items(); !sameItems(got, want) {
			t.Errorf("Items: %v, want %v", got, want)
		}
	}
	is := map[int]int{}
	for _, x := range want {
		is[x.ID]++
	}
	for id := -1; id <= 34; id++ {
		got, ok := d.Until(id)
		if ok != (is[id] == 1) || !ok && got != 0 {
			t.Errorf("Until(%d): %d, %v", id, got, ok)
		}
	}
}

// wantDue: Due must be these, and they must be gone then; the others stay.
func wantDue(t *testing.T, d *Doubt, now uint64, want ...Item) {
	t.Helper()
	rest := slices.DeleteFunc(d.Items(), func(x Item) bool {
		return slices.ContainsFunc(want, func(y Item) bool { return x.ID == y.ID })
	})
	if got := d.Due(now); !sameItems(got, want) {
		t.Errorf("Due(%d): %v, want %v", now, got, want)
	}
	wantItems(t, d, rest...)
	if got := d.Due(now); len(got) != 0 {
		t.Errorf("Due(%d) once more: %v", now, got)
	}
}

// some: doubts of all kinds, with node 2 suspected of Inc 9, or not at all.
func some(t *testing.T) []*Doubt {
	t.Helper()
	full := made(t)
	for id := 1; id <= 32; id++ {
		wantBegin(t, full, item(id, 9, uint64(id), 100), api.OK)
		wantConfirm(t, full, id, 9, id%32+1, api.OK)
	}
	return []*Doubt{made(t), made(t, item(2, 9, 5, 7)), made(t, item(1, 0, 0, 1), item(2, 9, 5, 7, 32, 1), item(32, math.MaxUint32, 1<<62, 1000000)), full}
}

// P15.1: in a new one nobody is suspected, and Due of it is nothing, whoever is suspected in another one.
func TestNew(t *testing.T) {
	other := made(t, item(1, 4, 3, 2, 5))
	d := made(t)
	wantItems(t, d)
	for _, now := range []uint64{0, 1, 1 << 62, math.MaxUint64} {
		wantDue(t, d, now)
	}
	wantBegin(t, d, item(2, 1, 1, 1), api.OK)
	wantItems(t, other, item(1, 4, 3, 2, 5))
	wantItems(t, made(t))
}

// P15.1: begun, one is suspected, of that Inc, since now, and nobody confirms it; each of what may be, up to the edges.
func TestBegin(t *testing.T) {
	for id := 1; id <= 32; id++ {
		for _, inc := range incs() {
			for _, now := range []uint64{0, 1, 10, 1 << 32, 1<<62 - 1, 1 << 62} {
				for _, hold := range []uint64{1, 2, 7, 999999, 1000000} {
					x := item(id, inc, now, hold)
					d := made(t, x)
					wantItems(t, d, x)
					wantUntil(t, d, id, now+hold)
				}
			}
		}
	}
}

// P15.1, P6: of no node, at a later time, and of 0 or too long Begin is ErrArg, and nothing changes, whichever it is.
func TestBeginRefuses(t *testing.T) {
	for _, d := range some(t) {
		for _, id := range notIDs() {
			wantBegin(t, d, item(id, 10, 5, 7), api.ErrArg)
			wantBegin(t, d, item(id, math.MaxUint32, 1<<63, 0), api.ErrArg)
		}
		for _, now := range notNows() {
			wantBegin(t, d, item(2, 10, now, 7), api.ErrArg)
			wantBegin(t, d, item(17, 10, now, 1000001), api.ErrArg)
		}
		for _, hold := range notHolds() {
			wantBegin(t, d, item(2, 10, 5, hold), api.ErrArg)
			wantBegin(t, d, item(17, 10, 1<<62, hold), api.ErrArg)
		}
	}
}

// P15.1, P2: ErrArg is told ahead of ErrOld.
func TestBeginArgFirst(t *testing.T) {
	d := made(t, item(2, 9, 5, 7, 1))
	for _, inc := range []uint32{0, 8, 9} {
		for _, now := range notNows() {
			wantBegin(t, d, item(2, inc, now, 7), api.ErrArg)
		}
		for _, hold := range notHolds() {
			wantBegin(t, d, item(2, inc, 5, hold), api.ErrArg)
		}
		wantBegin(t, d, item(2, inc, 5, 7), api.ErrOld)
	}
}

// P15.1: one that is suspected of an Inc at least as great is old, whatever else is another; of a greater one it begins anew, and nobody confirms it.
func TestBeginOld(t *testing.T) {
	for _, was := range incs() {
		for _, inc := range incs() {
			for _, x := range []Item{item(5, inc, 20, 30), item(5, inc, 0, 1), item(5, inc, 1<<62, 1000000)} {
				old := item(5, was, 20, 30, 4, 6, 32)
				d := made(t, item(4, math.MaxUint32, 1, 1), old, item(6, math.MaxUint32, 1, 1))
				want := x
				if inc <= was {
					wantBegin(t, d, x, api.ErrOld)
					want = old
				} else {
					wantBegin(t, d, x, api.OK)
					wantUntil(t, d, 5, x.Since+x.Hold)
				}
				wantItems(t, d, item(4, math.MaxUint32, 1, 1), want, item(6, math.MaxUint32, 1, 1))
			}
		}
	}
}

// P15.1: who confirmed of a lesser Inc may confirm the greater one; and of the lesser one it is none any more.
func TestConfirmAnew(t *testing.T) {
	d := made(t, item(5, 3, 10, 12, 4, 6))
	wantBegin(t, d, item(5, 4, 100, 12), api.OK)
	wantConfirm(t, d, 5, 3, 7, api.ErrNone)
	wantConfirm(t, d, 5, 3, 4, api.ErrNone)
	wantConfirm(t, d, 5, 4, 4, api.OK)
	wantItems(t, d, item(5, 4, 100, 12, 4))
	wantUntil(t, d, 5, 106)
}

// P15.1: who was cleared, or fell due, is suspected no more: it begins of any Inc, and nobody confirms it.
func TestBeginAgain(t *testing.T) {
	for _, inc := range incs() {
		d := made(t, item(5, 7, 10, 12, 4, 6), item(8, 7, 10, 12, 4, 6))
		wantClear(t, d, 5, 8, true)
		wantDue(t, d, 14, item(8, 7, 10, 12, 4, 6))
		wantConfirm(t, d, 5, 7, 9, api.ErrNone)
		wantConfirm(t, d, 8, 7, 9, api.ErrNone)
		for _, id := range []int{5, 8} {
			wantBegin(t, d, item(id, inc, 1, 3), api.OK)
			wantUntil(t, d, id, 4)
		}
		wantItems(t, d, item(5, inc, 1, 3), item(8, inc, 1, 3))
	}
}

// P15.1: one whose Until is over, but that nobody asked for by Due, is still suspected.
func TestStillSuspected(t *testing.T) {
	d := made(t, item(5, 7, 10, 2))
	wantBegin(t, d, item(5, 7, 1000, 2), api.ErrOld)
	wantConfirm(t, d, 5, 7, 1, api.OK)
	wantItems(t, d, item(5, 7, 10, 2, 1))
}

// P15.1: each node but itself may confirm one, once; in whatever order, they are told rising.
func TestConfirm(t *testing.T) {
	for id := 1; id <= 32; id++ {
		for seed := range uint64(6) {
			d := made(t, item(id, 3, 10, 64))
			order, _ := draw.New(seed).Mix(others(id))
			for k, who := range order {
				wantConfirm(t, d, id, 3, who, api.OK)
				wantConfirm(t, d, id, 3, who, api.ErrOld)
				wantConfirm(t, d, id, 3, order[0], api.ErrOld)
				wantItems(t, d, item(id, 3, 10, 64, sorted(order[:k+1])...))
			}
			wantUntil(t, d, id, 12)
		}
	}
}

// others: the nodes but that one, rising.
func others(id int) []int {
	l := []int{}
	for who := 1; who <= 32; who++ {
		if who != id {
			l = append(l, who)
		}
	}
	return l
}

// sorted: l, rising, in new memory.
func sorted(l []int) []int {
	l = slices.Clone(l)
	slices.Sort(l)
	return l
}

// P15.1: who confirms one confirms no other one, of itself neither.
func TestConfirmEach(t *testing.T) {
	d := made(t, item(1, 3, 10, 6), item(2, 3, 10, 6), item(3, 3, 10, 6))
	wantConfirm(t, d, 2, 3, 1, api.OK)
	wantItems(t, d, item(1, 3, 10, 6), item(2, 3, 10, 6, 1), item(3, 3, 10, 6))
	wantConfirm(t, d, 1, 3, 2, api.OK)
	wantConfirm(t, d, 3, 3, 1, api.OK)
	wantItems(t, d, item(1, 3, 10, 6, 2), item(2, 3, 10, 6, 1), item(3, 3, 10, 6, 1))
}

// P15.1, P6: of who is no node, or is that one itself, Confirm is ErrArg, ahead of ErrNone.
func TestConfirmRefuses(t *testing.T) {
	for _, d := range some(t) {
		for _, inc := range incs() {
			for _, id := range append(notIDs(), 1, 2, 17, 32) {
				for _, who := range append(notIDs(), id) {
					wantConfirm(t, d, id, inc, who, api.ErrArg)
				}
			}
		}
	}
}

// P15.1, P6: of who is not suspected, or no node at all, or of another Inc, Confirm is ErrNone, also of who confirms already.
func TestConfirmNone(t *testing.T) {
	for _, d := range some(t) {
		for _, id := range notIDs() {
			for _, inc := range incs() {
				for _, who := range []int{1, 16, 31, 32} {
					if who != id {
						wantConfirm(t, d, id, inc, who, api.ErrNone)
					}
				}
			}
		}
	}
	d := made(t, item(5, 7, 10, 12, 4))
	for _, inc := range append(incs(), 6, 8, 7+1<<8, 7+1<<16, 7+1<<31) {
		want, again := api.ErrNone, api.ErrNone
		if inc == 7 {
			want, again = api.OK, api.ErrOld
		}
		wantConfirm(t, d, 5, inc, 4, again)
		wantConfirm(t, d, 5, inc, 6, want)
		wantConfirm(t, d, 6, inc, 4, api.ErrNone)
		wantConfirm(t, d, 4, inc, 5, api.ErrNone)
	}
	wantItems(t, d, item(5, 7, 10, 12, 4, 6))
}

// P15.2: Until, as it was reckoned by hand: Hold is divided, not Since, and rounded up.
func TestUntil(t *testing.T) {
	for _, c := range []struct {
		since, hold uint64
		untils      []uint64
	}{
		{10, 7, []uint64{17, 14, 13, 12, 12, 12, 11, 11, 11}},
		{0, 1, []uint64{1, 1, 1, 1}},
		{5, 2, []uint64{7, 6, 6, 6}},
		{100, 12, []uint64{112, 106, 104, 103, 103, 102, 102, 102, 102, 102, 102, 101, 101}},
		{3, 1000000, []uint64{1000003, 500003, 333337, 250003, 200003, 166670, 142861, 125003}},
		{1 << 62, 1000000, []uint64{1<<62 + 1000000, 1<<62 + 500000, 1<<62 + 333334}},
		{1 << 62, 999999, []uint64{1<<62 + 999999, 1<<62 + 500000, 1<<62 + 333333}},
		{1 << 62, 1, []uint64{1<<62 + 1, 1<<62 + 1}},
	} {
		d := made(t, item(9, 4, c.since, c.hold), item(8, 4, 0, 1))
		for who, want := range c.untils {
			// Node 9 itself does not confirm it.
			if who > 0 {
				wantConfirm(t, d, 9, 4, who+who/9, api.OK)
			}
			wantUntil(t, d, 9, want)
		}
	}
}

// P15.2: with all 31 others the Hold is divided by 32, for each Hold of a few.
func TestUntilOfAll(t *testing.T) {
	for _, c := range [][2]uint64{{1, 1}, {31, 1}, {32, 1}, {33, 2}, {63, 2}, {64, 2}, {65, 3}, {999999, 31250}, {1000000, 31250}, {999968, 31249}, {999969, 31250}} {
		x := item(16, 1, 50, c[0], others(16)...)
		d := made(t, x)
		wantUntil(t, d, 16, 50+c[1])
		wantDue(t, d, 50+c[1]-1)
		wantDue(t, d, 50+c[1], x)
	}
}

// P15.2, P2, P6: of who is not suspected, and of no node, Until is false, and 0.
func TestUntilNone(t *testing.T) {
	for _, d := range some(t) {
		for _, id := range notIDs() {
			if got, ok := d.Until(id); got != 0 || ok {
				t.Errorf("Until(%d): %d, %v", id, got, ok)
			}
		}
	}
	wantItems(t, made(t, item(1, 2, 3, 4), item(32, 2, 3, 4)), item(1, 2, 3, 4), item(32, 2, 3, 4))
}

// P15.2: Clear lets one go just of an Inc that is greater than its own, with who confirms it; the others stay.
func TestClear(t *testing.T) {
	for _, was := range incs() {
		for _, inc := range incs() {
			low, high := item(4, 0, 1, 1, 5), item(6, 0, 1, 1, 5)
			x := item(5, was, 20, 30, 4, 6)
			d := made(t, high, x, low)
			wantClear(t, d, 5, inc, inc > was)
			if inc > was {
				wantClear(t, d, 5, inc, false)
				wantClear(t, d, 5, math.MaxUint32, false)
				wantItems(t, d, low, high)
			} else {
				wantItems(t, d, low, x, high)
			}
		}
	}
}

// P15.2, P6: of who is not suspected, and of no node, Clear is false.
func TestClearNone(t *testing.T) {
	for _, d := range some(t) {
		for _, inc := range incs() {
			for _, id := range notIDs() {
				wantClear(t, d, id, inc, false)
			}
		}
	}
	d := made(t, item(5, 0, 1, 1))
	for _, id := range others(5) {
		wantClear(t, d, id, math.MaxUint32, false)
	}
}

// P15.2: Due tells those whose Until is at most now, by ID, however they were begun, and when they fall due; they are no more.
func TestDue(t *testing.T) {
	a, b, c, e := item(32, 1, 0, 10), item(1, 2, 5, 5, 32), item(17, 3, 20, 30, 1, 2), item(2, 4, 30, 1)
	d := made(t, a, b, c, e)
	wantItems(t, d, b, e, c, a)
	wantDue(t, d, 0)
	wantDue(t, d, 7)
	wantDue(t, d, 8, b)
	wantDue(t, d, 9)
	wantDue(t, d, 31, e, c, a)
	wantItems(t, d)
	wantDue(t, d, math.MaxUint64)
}

// P15.2, P6: Due of any 64 bits; the latest Until is 2^62 and 1000000.
func TestDueEdges(t *testing.T) {
	x, y := item(7, 0, 1<<62, 1000000), item(3, math.MaxUint32, 1<<62, 999999)
	for _, now := range []uint64{1<<62 + 1000000, 1<<62 + 1000001, 1 << 63, 1<<63 + 1, math.MaxUint64} {
		d := made(t, x, y)
		for _, early := range []uint64{0, 1, 1<<62 - 1, 1 << 62, 1<<62 + 999998} {
			wantDue(t, d, early)
		}
		wantDue(t, d, now, y, x)
		d = made(t, x, y)
		wantDue(t, d, 1<<62+999999, y)
		wantDue(t, d, now, x)
	}
}

// P15.2: all 32 are told, by ID, in whatever order they were begun.
func TestAllOfThem(t *testing.T) {
	for seed := range uint64(20) {
		order, _ := draw.New(seed).Mix(others(0))
		d, want := made(t), []Item{}
		for _, id := range order {
			wantBegin(t, d, item(id, uint32(id), uint64(33-id), 5), api.OK)
		}
		for id := 1; id <= 32; id++ {
			want = append(want, item(id, uint32(id), uint64(33-id), 5))
		}
		wantItems(t, d, want...)
		wantDue(t, d, 5)
		wantDue(t, d, 20, want[17:]...)
		wantDue(t, d, 37, want[:17]...)
	}
}

// P15.3: who confirms lets it fall due no later, and just as early as the division tells; what is refused changes nothing of it.
func TestNoLater(t *testing.T) {
	for _, hold := range []uint64{1, 2, 3, 5, 7, 31, 32, 33, 64, 100, 1001, 999999, 1000000} {
		d := made(t, item(20, 8, 77, hold))
		was, _ := d.Until(20)
		for k, who := range others(20) {
			wantConfirm(t, d, 20, 8, who, api.OK)
			now, _ := d.Until(20)
			parts := uint64(k + 2)
			if now > was || (now-77)*parts < hold || (now-78)*parts >= hold {
				t.Errorf("hold %d, %d confirm: %d, was %d", hold, k+1, now, was)
			}
			wantConfirm(t, d, 20, 8, who, api.ErrOld)
			wantUntil(t, d, 20, now)
			was = now
		}
	}
}

// P15.3: who is cleared does not fall due, at whatever time, however many confirmed it; nor does it by a Confirm that comes behind.
func TestClearedFallsNotDue(t *testing.T) {
	for k := range 32 {
		d := made(t, item(9, 5, 10, 20, others(9)[:k]...), item(10, 5, 10, 20))
		wantClear(t, d, 9, 6, true)
		for _, who := range others(9) {
			wantConfirm(t, d, 9, 5, who, api.ErrNone)
		}
		wantDue(t, d, 29)
		wantDue(t, d, math.MaxUint64, item(10, 5, 10, 20))
	}
}

// spoil writes into all of l, into whoever confirms there, and into the spare room of both.
func spoil(l []Item) {
	l = l[:cap(l)]
	for k := range l {
		who := l[k].Who[:cap(l[k].Who)]
		for j := range who {
			who[j] = 666
		}
	}
	for k := range l {
		l[k] = item(31, 666, 666, 666, 666)
	}
}

// P3: answers are new memory, with their spare room, and stay as they were told.
func TestAnswersAreNew(t *testing.T) {
	for k := range 32 {
		d := made(t, item(9, 5, 10, 20, others(9)[:k]...), item(10, 5, 10, 2000, others(10)[:k]...), item(11, 5, 10, 2000))
		was := deep(d.Items())
		told := d.Items()
		spoil(d.Items())
		stays(t, d, was, "writing into Items")
		// Whoever confirms now stands in no spare room of what was told.
		for _, who := range others(10)[k:] {
			wantConfirm(t, d, 10, 5, who, api.OK)
		}
		if !sameItems(told, was) {
			t.Errorf("an answer changed: %v, was %v", told, was)
		}
		due := d.Due(30)
		wantBegin(t, d, item(9, 6, 1, 1), api.OK)
		wantConfirm(t, d, 9, 6, 32, api.OK)
		if !sameItems(due, was[:1]) {
			t.Errorf("what was due changed: %v, was %v", due, was[:1])
		}
		now := deep(d.Items())
		spoil(due)
		stays(t, d, now, "writing into Due")
	}
}

// P3: no two lists of one answer share memory.
func TestAnswersShareNothing(t *testing.T) {
	of := func() *Doubt { return made(t, item(1, 5, 0, 1, 2, 3), item(2, 5, 0, 1, 3), item(3, 5, 0, 1, 1, 2)) }
	for _, l := range [][]Item{of().Items(), of().Due(9)} {
		was := deep(l)
		for k := range l {
			for j := range l {
				if j < k {
					continue
				}
				if !slices.Equal(l[j].Who, was[j].Who) {
					t.Errorf("%d was changed by another one: %v", j, l[j])
				}
			}
			who := l[k].Who[:cap(l[k].Who)]
			for j := range who {
				who[j] = 666
			}
		}
	}
}

// P2: what is asked changes nothing.
func TestAskingChangesNothing(t *testing.T) {
	for _, d := range some(t) {
		was := deep(d.Items())
		for id := -2; id <= 40; id++ {
			d.Until(id)
			d.Items()
			d.Due(0)
		}
		stays(t, d, was, "asking")
	}
}

// word is one thing that was done, and turned something: told of an ID.
type word struct {
	begun, cleared bool
	item           Item
	who            int
}

// plain is a doubt done otherwise: it keeps all that was ever said, and reckons out of that what is.
type plain struct{ said []word }

// of answers what is said of that one now: nothing of one that is not suspected.
func (p *plain) of(id int) (Item, bool) {
	x, is := Item{}, false
	for _, w := range p.said {
		switch {
		case w.item.ID != id:
		case w.begun:
			x, is = w.item, true
		case w.cleared:
			x, is = Item{}, false
		default:
			x.Who = append(slices.Clone(x.Who), w.who)
		}
	}
	slices.Sort(x.Who)
	return x, is
}

// begin: Begin.
func (p *plain) begin(x Item) api.Errno {
	if x.ID <= 0 || x.ID >= 33 || x.Since > 1<<62 || x.Hold-1 > 999999 {
		return api.ErrArg
	}
	if old, is := p.of(x.ID); is && !(old.Inc < x.Inc) {
		return api.ErrOld
	}
	p.said = append(p.said, word{begun: true, item: x})
	return api.OK
}

// confirm: Confirm.
func (p *plain) confirm(id int, inc uint32, who int) api.Errno {
	if who <= 0 || who >= 33 || who == id {
		return api.ErrArg
	}
	x, is := p.of(id)
	if !is || x.Inc != inc {
		return api.ErrNone
	}
	if slices.Contains(x.Who, who) {
		return api.ErrOld
	}
	p.said = append(p.said, word{item: Item{ID: id}, who: who})
	return api.OK
}

// clear: Clear.
func (p *plain) clear(id int, inc uint32) bool {
	x, is := p.of(id)
	if !is || x.Inc >= inc {
		return false
	}
	p.said = append(p.said, word{cleared: true, item: Item{ID: id}})
	return true
}

// until: Until, by trying whether so many parts make up the Hold.
func (p *plain) until(id int) (uint64, bool) {
	x, is := p.of(id)
	if !is {
		return 0, false
	}
	part := uint64(0)
	for part*uint64(1+len(x.Who)) < x.Hold {
		part++
	}
	return x.Since + part, true
}

// items: Items.
func (p *plain) items() []Item {
	l := []Item{}
	for id := range 40 {
		if x, is := p.of(id); is {
			l = append(l, x)
		}
	}
	return l
}

// due: Due.
func (p *plain) due(now uint64) []Item {
	l := []Item{}
	for _, x := range p.items() {
		if until, _ := p.until(x.ID); until <= now {
			l = append(l, x)
			p.said = append(p.said, word{cleared: true, item: Item{ID: x.ID}})
		}
	}
	return l
}

// play does to a doubt, and to a plain one, what is drawn.
type play struct {
	s   draw.Stream
	d   *Doubt
	p   *plain
	ids int
	now uint64
}

// below draws a number below n.
func (g *play) below(n int) int {
	k, s := g.s.Below(n)
	g.s = s
	return k
}

// id draws the number of a node, and now and then what is none.
func (g *play) id() int {
	if g.below(30) == 0 {
		return notIDs()[g.below(len(notIDs()))]
	}
	return 1 + g.below(g.ids)
}

// inc draws an Inc, of few, that rise with the time.
func (g *play) inc() uint32 { return uint32(g.now/40) + uint32(g.below(3)) }

// begin does a Begin, now and then a wrong one.
func (g *play) begin() bool {
	x := item(g.id(), g.inc(), g.now, uint64(1+g.below(60)))
	switch g.below(30) {
	case 0:
		x.Since = notNows()[g.below(len(notNows()))]
	case 1:
		x.Hold = notHolds()[g.below(len(notHolds()))]
	}
	return g.d.Begin(x.ID, x.Inc, x.Since, x.Hold) == g.p.begin(x)
}

// confirm does a Confirm, of an Inc that is mostly the one of which it is suspected: by it no Until rises.
func (g *play) confirm() bool {
	id, inc, who := g.id(), g.inc(), g.id()
	if x, is := g.p.of(id); is && g.below(4) > 0 {
		inc = x.Inc
	}
	was, _ := g.d.Until(id)
	same := g.d.Confirm(id, inc, who) == g.p.confirm(id, inc, who)
	now, _ := g.d.Until(id)
	return same && now <= was
}

// step does one thing, and answers whether both did the same.
func (g *play) step() bool {
	switch k := g.below(20); {
	case k < 6:
		return g.begin()
	case k < 15:
		return g.confirm()
	case k < 17:
		id, inc := g.id(), g.inc()
		return g.d.Clear(id, inc) == g.p.clear(id, inc)
	}
	g.now += uint64(g.below(12))
	return sameItems(g.d.Due(g.now), g.p.due(g.now))
}

// alike: does the doubt tell what the plain one does?
func (g *play) alike() bool {
	for id := -1; id <= 34; id++ {
		got, is := g.d.Until(id)
		if want, ok := g.p.until(id); got != want || is != ok {
			return false
		}
	}
	return sameItems(g.d.Items(), g.p.items())
}

// P15.1 to P15.3, P4: whatever is done, a doubt does as the plain one, and another doubt the same again.
func TestAsThePlainOne(t *testing.T) {
	for _, ids := range []int{2, 3, 7, 32} {
		for seed := range uint64(5) {
			g := &play{s: draw.New(seed*7919 + uint64(ids)), d: made(t), p: &plain{}, ids: ids}
			for i := range 500 {
				if was := deep(g.d.Items()); !g.step() || !g.alike() {
					t.Fatalf("%d nodes, seed %d, step %d: %v, want %v, was %v", ids, seed, i, g.d.Items(), g.p.items(), was)
				}
			}
			if len(g.p.said) < 100 {
				t.Errorf("%d nodes, seed %d: only %d things turned something", ids, seed, len(g.p.said))
			}
		}
	}
}
