package queue

import (
	"fmt"
	"math"
	"slices"
	"testing"

	"scuttlebutt/addr"
	"scuttlebutt/api"
	"scuttlebutt/draw"
	"scuttlebutt/record"
)

// The states, in short.
const (
	alive   = record.Alive
	suspect = record.Suspect
	dead    = record.Dead
	left    = record.Left
)

// home: an address that is not None.
var home = addr.Addr{IP: 0x0a000001, Port: 7000}

// rec: a record at home.
func rec(id, state int, inc uint32) record.Record {
	return record.Record{ID: id, State: state, Inc: inc, Addr: home}
}

// at: that record at another address.
func at(r record.Record, ip uint32, port uint16) record.Record {
	r.Addr = addr.Addr{IP: ip, Port: port}
	return r
}

// item: that record, to be told that often.
func item(r record.Record, times int) Item { return Item{Record: r, Left: times} }

// fresh: an item of a node that is alive, of Inc 0.
func fresh(id, times int) Item { return item(rec(id, alive, 0), times) }

// notRight: records that may not be; of each just one part is amiss, but of the last ones.
func notRight() []record.Record {
	l := []record.Record{}
	for _, id := range []int{0, -1, -2, -32, 33, 34, 64, 255, 256, 257, 1 << 32, 1<<32 + 1, math.MaxInt64, math.MinInt64, math.MinInt64 + 1} {
		l = append(l, rec(id, alive, 9), rec(id, left, math.MaxUint32))
	}
	for _, state := range []int{-1, -2, 4, 5, 255, 256, 1 << 32, math.MaxInt64, math.MinInt64} {
		l = append(l, rec(1, state, 9), rec(2, state, math.MaxUint32), rec(32, state, 9))
	}
	for _, id := range []int{1, 2, 32} {
		l = append(l, record.Record{ID: id, Inc: 9}, at(rec(id, left, math.MaxUint32), 0, 1), at(rec(id, dead, 9), 1, 0))
	}
	return append(l, record.Record{}, record.Record{Addr: home}, rec(33, 4, 9))
}

// notTimes: how often nothing may be told.
func notTimes() []int {
	return []int{0, -1, -100, 101, 102, 200, 255, 256, 1 << 32, 1<<32 + 1, 1<<32 + 100, math.MaxInt64, math.MaxInt64 - 1, math.MinInt64, math.MinInt64 + 1}
}

// made: a new queue, with these added, each of which must be OK.
func made(t *testing.T, room int, l ...Item) *Queue {
	t.Helper()
	q, e := New(room)
	if q == nil || e != api.OK {
		t.Fatalf("New(%d): %v, %d", room, q, e)
	}
	for _, x := range l {
		wantAdd(t, q, x, api.OK)
	}
	return q
}

// wantAdd: Add must answer that; with an error nothing changes.
func wantAdd(t *testing.T, q *Queue, x Item, want api.Errno) {
	t.Helper()
	was := q.Items()
	if e := q.Add(x.Record, x.Left); e != want {
		t.Errorf("Add(%v, %d): %d, want %d", x.Record, x.Left, e, want)
	}
	if want != api.OK {
		wantItems(t, q, was...)
	}
}

// wantItems: Items must be these, and Len as many.
func wantItems(t *testing.T, q *Queue, want ...Item) {
	t.Helper()
	if got := q.Items(); !slices.Equal(got, want) || q.Len() != len(want) {
		t.Errorf("Items: %v, %d, want %v", got, q.Len(), want)
	}
}

// wantSome: Some(k) must be these.
func wantSome(t *testing.T, q *Queue, k int, want ...record.Record) {
	t.Helper()
	if got := q.Some(k); !slices.Equal(got, want) {
		t.Errorf("Some(%d): %v, want %v", k, got, want)
	}
}

// wantTold: Some(k) must be of these IDs.
func wantTold(t *testing.T, q *Queue, k int, want ...int) {
	t.Helper()
	if got := ids(q.Some(k)); !slices.Equal(got, want) {
		t.Errorf("Some(%d): %v, want %v", k, got, want)
	}
}

// ids: of which nodes they are.
func ids(l []record.Record) []int {
	var got []int
	for _, r := range l {
		got = append(got, r.ID)
	}
	return got
}

// P12.1: Times is 3 for each bit of nodes; below 1 it is as of 1.
func TestTimes(t *testing.T) {
	for _, x := range []struct{ nodes, want int }{
		{1, 3}, {2, 6}, {3, 6}, {4, 9}, {5, 9}, {7, 9}, {8, 12}, {15, 12}, {16, 15}, {31, 15}, {32, 18}, {33, 18}, {63, 18}, {64, 21},
		{0, 3}, {-1, 3}, {-2, 3}, {-5, 3}, {-1 << 32, 3}, {math.MinInt64, 3}, {math.MinInt64 + 1, 3},
		{math.MaxInt64, 189}, {1 << 62, 189}, {1<<62 - 1, 186},
	} {
		if got := Times(x.nodes); got != x.want {
			t.Errorf("Times(%d): %d, want %d", x.nodes, got, x.want)
		}
	}
}

// P12.1: Times, by halving, of many numbers, and on both sides of each power of 2.
func TestTimesByHalving(t *testing.T) {
	halved := func(n int) int {
		sum := 0
		for ; n > 0; n /= 2 {
			sum += 3
		}
		return sum
	}
	for n := 1; n < 3000; n++ {
		if got := Times(n); got != halved(n) {
			t.Errorf("Times(%d): %d", n, got)
		}
	}
	for k := range 63 {
		for _, n := range []int{1<<k - 1, 1 << k, 1<<k + 1} {
			if got := Times(n); n > 0 && got != halved(n) {
				t.Errorf("Times(%d): %d", n, got)
			}
		}
	}
}

// P12.1: a queue may have room for 1 to MaxQueue; nothing is told on, whatever stands in another one.
func TestNew(t *testing.T) {
	other := made(t, 1, fresh(1, 5))
	for room := 1; room <= 64; room++ {
		q := made(t, room)
		wantItems(t, q)
		wantTold(t, q, 9)
		wantAdd(t, q, fresh(2, 3), api.OK)
		wantItems(t, q, fresh(2, 3))
	}
	wantItems(t, other, fresh(1, 5))
}

// P12.1, P2, P6: of another room New is ErrArg, with no queue.
func TestNewWrong(t *testing.T) {
	for _, room := range []int{0, -1, -2, -64, 65, 66, 128, 256, 1 << 32, 1<<32 + 1, 1<<32 + 64, math.MaxInt64, math.MinInt64, math.MinInt64 + 1} {
		if q, e := New(room); q != nil || e != api.ErrArg {
			t.Errorf("New(%d): %v, %d", room, q, e)
		}
	}
}

// P12.1: any right record is there, to be told 1 to 100 times.
func TestAddFirst(t *testing.T) {
	for id := 1; id <= 32; id++ {
		for state := range 4 {
			for _, inc := range []uint32{0, 1, 1 << 31, math.MaxUint32} {
				for _, r := range []record.Record{rec(id, state, inc), at(rec(id, state, inc), 1, 1), at(rec(id, state, inc), math.MaxUint32, math.MaxUint16)} {
					wantItems(t, made(t, 1, item(r, 7)), item(r, 7))
				}
			}
		}
	}
	for times := 1; times <= 100; times++ {
		wantItems(t, made(t, 2, fresh(9, times)), fresh(9, times))
	}
}

// queues: queues with nothing, with room, and with none.
func queues(t *testing.T) []*Queue {
	t.Helper()
	return []*Queue{
		made(t, 1),
		made(t, 64),
		made(t, 5, fresh(1, 3), item(rec(32, suspect, 1), 9)),
		made(t, 3, item(rec(2, left, 9), 1), item(rec(1, dead, 3), 100), item(rec(32, suspect, 1), 1)),
	}
}

// P12.1, P2, P6: of a record that is not right, and of times that are not 1 to 100, Add is ErrArg, and nothing changes.
func TestAddWrong(t *testing.T) {
	for _, q := range queues(t) {
		for _, bad := range notRight() {
			for _, times := range []int{1, 50, 100} {
				wantAdd(t, q, item(bad, times), api.ErrArg)
			}
		}
		for _, times := range notTimes() {
			for _, r := range []record.Record{rec(1, left, math.MaxUint32), rec(2, alive, 10), rec(17, alive, 0), rec(32, dead, 1)} {
				wantAdd(t, q, item(r, times), api.ErrArg)
			}
			wantAdd(t, q, item(record.Record{}, times), api.ErrArg)
		}
	}
}

// P12.1, P2: ErrArg is told ahead of ErrOld.
func TestAddWrongFirst(t *testing.T) {
	q := made(t, 4, item(rec(1, left, 9), 5))
	for _, times := range notTimes() {
		wantAdd(t, q, item(rec(1, left, 9), times), api.ErrArg)
		wantAdd(t, q, item(rec(1, alive, 0), times), api.ErrArg)
	}
	wantAdd(t, q, item(record.Record{ID: 1}, 5), api.ErrArg)
	wantAdd(t, q, item(rec(1, -1, 0), 5), api.ErrArg)
}

// ladder: records of one node, each over those ahead of it by its Inc, its state, its IP or its port.
func ladder(id int) []record.Record {
	return []record.Record{
		at(rec(id, alive, 0), 1, 1),
		at(rec(id, alive, 0), 1, 2),
		at(rec(id, alive, 0), 2, 1),
		at(rec(id, suspect, 0), 1, 1),
		at(rec(id, dead, 0), 1, 1),
		at(rec(id, dead, 0), math.MaxUint32, 1),
		at(rec(id, left, 0), 1, 1),
		at(rec(id, alive, 1), 1, 1),
		at(rec(id, left, 1), 9, 9),
		at(rec(id, suspect, 1<<31), 1, 1),
		at(rec(id, alive, math.MaxUint32), 1, 1),
		at(rec(id, left, math.MaxUint32), math.MaxUint32, math.MaxUint16),
	}
}

// P12.1: of one that is there just what is Over that takes its place, told less often, as often, or more often; each pair of the ladder.
func TestAddOver(t *testing.T) {
	l := ladder(5)
	for i, low := range l {
		for k, r := range l {
			for _, times := range []int{1, 6, 100} {
				q := made(t, 3, fresh(4, 6), item(low, 6), fresh(6, 6))
				if k <= i {
					wantAdd(t, q, item(r, times), api.ErrOld)
					continue
				}
				wantAdd(t, q, item(r, times), api.OK)
				want := map[int][]Item{
					1:   {fresh(4, 6), fresh(6, 6), item(r, 1)},
					6:   {fresh(4, 6), item(r, 6), fresh(6, 6)},
					100: {item(r, 100), fresh(4, 6), fresh(6, 6)},
				}
				wantItems(t, q, want[times]...)
				wantAdd(t, q, item(r, times), api.ErrOld)
				wantAdd(t, q, item(low, times), api.ErrOld)
			}
		}
	}
}

// P12.1: what stands there of one node doesn't hinder what comes of another.
func TestAddEach(t *testing.T) {
	q := made(t, 8, item(rec(4, left, math.MaxUint32), 3), item(rec(6, dead, 7), 2))
	wantAdd(t, q, fresh(5, 9), api.OK)
	wantAdd(t, q, item(rec(6, suspect, 7), 9), api.ErrOld)
	wantAdd(t, q, item(rec(5, suspect, 0), 1), api.OK)
	wantItems(t, q, item(rec(4, left, math.MaxUint32), 3), item(rec(6, dead, 7), 2), item(rec(5, suspect, 0), 1))
}

// P12.1: what takes the place of one begins anew, also where that was told already; and what is over one that went may be below it.
func TestAddAnew(t *testing.T) {
	q := made(t, 2, item(rec(3, dead, 4), 3))
	wantSome(t, q, 1, rec(3, dead, 4))
	wantSome(t, q, 1, rec(3, dead, 4))
	wantAdd(t, q, item(rec(3, dead, 4), 3), api.ErrOld)
	wantAdd(t, q, item(rec(3, left, 4), 2), api.OK)
	wantItems(t, q, item(rec(3, left, 4), 2))
	wantSome(t, q, 1, rec(3, left, 4))
	wantSome(t, q, 1, rec(3, left, 4))
	wantItems(t, q)
	// Nothing of that ID is there any more: there is nothing that it must be over.
	wantAdd(t, q, fresh(3, 1), api.OK)
	wantItems(t, q, fresh(3, 1))
}

// P12.1: with more than room that with the least Left goes, of the same that of the greatest ID.
func TestAddRoom(t *testing.T) {
	for _, x := range []struct {
		what  string
		items []Item
		more  Item
		want  []Item
	}{
		{"the least, of the least ID", []Item{fresh(1, 2), fresh(2, 3), fresh(3, 4)}, fresh(4, 5), []Item{fresh(4, 5), fresh(3, 4), fresh(2, 3)}},
		{"the least, in the middle", []Item{fresh(1, 3), fresh(2, 2), fresh(3, 4)}, fresh(4, 5), []Item{fresh(4, 5), fresh(3, 4), fresh(1, 3)}},
		{"the least, added last", []Item{fresh(1, 3), fresh(2, 4), fresh(3, 2)}, fresh(4, 5), []Item{fresh(4, 5), fresh(2, 4), fresh(1, 3)}},
		{"the new one", []Item{fresh(2, 2), fresh(3, 3), fresh(4, 4)}, fresh(1, 1), []Item{fresh(4, 4), fresh(3, 3), fresh(2, 2)}},
		{"the new one, of the greatest ID", []Item{fresh(1, 2), fresh(2, 2), fresh(3, 3)}, fresh(4, 2), []Item{fresh(3, 3), fresh(1, 2), fresh(2, 2)}},
		{"another one, of the greatest ID", []Item{fresh(2, 2), fresh(9, 2), fresh(3, 3)}, fresh(4, 2), []Item{fresh(3, 3), fresh(2, 2), fresh(4, 2)}},
		{"of all the same", []Item{fresh(32, 7), fresh(31, 7), fresh(30, 7)}, fresh(1, 7), []Item{fresh(1, 7), fresh(30, 7), fresh(31, 7)}},
		{"not by what is known", []Item{item(rec(1, left, 9), 1), fresh(2, 2), fresh(3, 2)}, fresh(4, 2), []Item{fresh(2, 2), fresh(3, 2), fresh(4, 2)}},
	} {
		t.Run(x.what, func(t *testing.T) {
			q := made(t, 3, x.items...)
			wantAdd(t, q, x.more, api.OK)
			wantItems(t, q, x.want...)
		})
	}
}

// P12.1: of room 1 there is ever one.
func TestAddRoomOne(t *testing.T) {
	q := made(t, 1, fresh(7, 5))
	for _, x := range []struct{ more, want Item }{
		{fresh(8, 5), fresh(7, 5)},
		{fresh(1, 4), fresh(7, 5)},
		{fresh(6, 5), fresh(6, 5)},
		{fresh(9, 6), fresh(9, 6)},
		{item(rec(9, dead, 0), 1), item(rec(9, dead, 0), 1)},
		{fresh(10, 1), item(rec(9, dead, 0), 1)},
		{fresh(1, 1), fresh(1, 1)},
	} {
		wantAdd(t, q, x.more, api.OK)
		wantItems(t, q, x.want)
	}
}

// P12.1: what takes the place of one of its ID asks no room: no other one goes.
func TestAddOverFull(t *testing.T) {
	q := made(t, 2, fresh(1, 2), fresh(2, 1))
	wantAdd(t, q, item(rec(1, dead, 0), 100), api.OK)
	wantItems(t, q, item(rec(1, dead, 0), 100), fresh(2, 1))
	wantAdd(t, q, item(rec(1, dead, 1), 1), api.OK)
	wantItems(t, q, item(rec(1, dead, 1), 1), fresh(2, 1))
}

// P12.1: what was told has less left, and goes ahead of others.
func TestAddRoomTold(t *testing.T) {
	q := made(t, 3, fresh(1, 4), fresh(2, 3), fresh(3, 3))
	wantTold(t, q, 1, 1)
	wantTold(t, q, 1, 1)
	wantAdd(t, q, fresh(4, 2), api.OK)
	wantItems(t, q, fresh(2, 3), fresh(3, 3), fresh(1, 2))
	wantTold(t, q, 2, 2, 3)
	wantAdd(t, q, fresh(2, 1), api.ErrOld)
	wantAdd(t, q, fresh(31, 2), api.OK)
	wantItems(t, q, fresh(1, 2), fresh(2, 2), fresh(3, 2))
}

// P12.1, T3: all nodes may be told on, of room 32 and above; of less room there are never more than it.
func TestAddAll(t *testing.T) {
	for room := 1; room <= 64; room++ {
		q, want := made(t, room), []Item{}
		for id := 32; id >= 1; id-- {
			wantAdd(t, q, fresh(id, 40-id), api.OK)
			want = append([]Item{fresh(id, 40-id)}, want...)[:min(room, 33-id)]
			wantItems(t, q, want...)
		}
	}
}

// P12.2: Items are by Left, the greatest first, of the same by ID, rising, in whatever order they came.
func TestItems(t *testing.T) {
	l := []Item{item(rec(9, dead, 3), 100), fresh(2, 7), fresh(3, 7), item(rec(30, left, 1), 7), fresh(1, 2), item(rec(32, suspect, 0), 1)}
	for k := range l {
		wantItems(t, made(t, 6, append(slices.Clone(l[k:]), l[:k]...)...), l...)
	}
	back := slices.Clone(l)
	slices.Reverse(back)
	wantItems(t, made(t, 64, back...), l...)
}

// P12.2: Some tells the first k, each of which has one less left; those with none left go.
func TestSome(t *testing.T) {
	q := made(t, 9, item(rec(5, suspect, 2), 2), fresh(7, 4), fresh(2, 3), item(at(rec(9, left, 1), 1, 1), 3))
	wantSome(t, q, 1, rec(7, alive, 0))
	wantItems(t, q, fresh(2, 3), fresh(7, 3), item(at(rec(9, left, 1), 1, 1), 3), item(rec(5, suspect, 2), 2))
	wantSome(t, q, 3, rec(2, alive, 0), rec(7, alive, 0), at(rec(9, left, 1), 1, 1))
	wantItems(t, q, fresh(2, 2), item(rec(5, suspect, 2), 2), fresh(7, 2), item(at(rec(9, left, 1), 1, 1), 2))
	wantTold(t, q, 2, 2, 5)
	wantTold(t, q, 2, 7, 9)
	wantTold(t, q, 3, 2, 5, 7)
	wantItems(t, q, item(at(rec(9, left, 1), 1, 1), 1))
	wantTold(t, q, 3, 9)
	wantItems(t, q)
	wantTold(t, q, 3)
}

// P12.2, P6: with less than k all are told, whatever k is; with k below 1 none is, and nothing changes.
func TestSomeEdges(t *testing.T) {
	for _, k := range []int{3, 4, 65, 1 << 32, 1<<32 + 1, math.MaxInt64 - 1, math.MaxInt64} {
		q := made(t, 3, fresh(1, 2), fresh(2, 1), fresh(3, 2))
		wantTold(t, q, k, 1, 3, 2)
		wantItems(t, q, fresh(1, 1), fresh(3, 1))
		wantTold(t, q, k, 1, 3)
		wantItems(t, q)
		wantTold(t, q, k)
	}
	for _, k := range []int{0, -1, -2, -64, -1 << 32, 1 - 1<<32, math.MinInt64, math.MinInt64 + 1} {
		q := made(t, 3, fresh(1, 2), fresh(2, 1), fresh(3, 2))
		wantTold(t, q, k)
		wantItems(t, q, fresh(1, 2), fresh(3, 2), fresh(2, 1))
	}
}

// P12.2: of just one, told one at a time, nothing is left at the end of its times.
func TestSomeOfOne(t *testing.T) {
	for _, times := range []int{1, 2, 3, 18, 99, 100} {
		q := made(t, 64, fresh(32, times))
		for k := times; k > 0; k-- {
			wantItems(t, q, fresh(32, k))
			wantTold(t, q, 1, 32)
		}
		wantItems(t, q)
		wantTold(t, q, 1)
	}
}

// P12.2: room that was told free is free again.
func TestSomeFrees(t *testing.T) {
	q := made(t, 2, fresh(1, 1), fresh(2, 1))
	wantTold(t, q, 1, 1)
	wantAdd(t, q, fresh(3, 1), api.OK)
	wantItems(t, q, fresh(2, 1), fresh(3, 1))
	wantTold(t, q, 2, 2, 3)
	wantAdd(t, q, fresh(5, 1), api.OK)
	wantAdd(t, q, fresh(4, 1), api.OK)
	wantItems(t, q, fresh(4, 1), fresh(5, 1))
}

// P12.3: by however many at a time, each is told as often as it was to be.
func TestToldAsOften(t *testing.T) {
	for k := 1; k <= 33; k++ {
		q, want := made(t, 32), map[int]int{}
		for id := 1; id <= 32; id++ {
			want[id] = 1 + id*id%100
			wantAdd(t, q, fresh(id, want[id]), api.OK)
		}
		told := map[int]int{}
		for q.Len() > 0 {
			for _, id := range ids(q.Some(k)) {
				told[id]++
			}
		}
		if fmt.Sprint(told) != fmt.Sprint(want) {
			t.Errorf("%d at a time: %v, want %v", k, told, want)
		}
	}
}

// spoil writes x into all of l, and into its spare room.
func spoil[T any](l []T, x T) {
	whole := l[:cap(l)]
	for k := range whole {
		whole[k] = x
	}
}

// filled: a queue of room 16 to which nodes 1 to n were added.
func filled(t *testing.T, n int) *Queue {
	t.Helper()
	q := made(t, 16)
	for id := 1; id <= n; id++ {
		wantAdd(t, q, fresh(id, 5), api.OK)
	}
	return q
}

// P3: answers are new memory, with their spare room: what is written there changes nothing that is told on.
func TestAnswersAreNew(t *testing.T) {
	for n := 1; n <= 20; n++ {
		q := filled(t, n)
		was := slices.Clone(q.Items())
		spoil(q.Items(), item(rec(31, left, 666), 77))
		spoil(q.Some(0), rec(31, left, 666))
		wantItems(t, q, was...)
		told := q.Some(3)
		was = slices.Clone(q.Items())
		spoil(told, rec(31, left, 666))
		spoil(q.Items(), item(rec(31, left, 666), 77))
		wantItems(t, q, was...)
	}
}

// P3: answers stay as they were told, whatever is done behind them.
func TestAnswersStay(t *testing.T) {
	for n := 1; n <= 20; n++ {
		q := filled(t, n)
		items, some := q.Items(), q.Some(n-1)
		wasItems, wasSome := slices.Clone(items), slices.Clone(some)
		for id := 1; id <= 32; id++ {
			wantAdd(t, q, item(rec(id, dead, 1), 3), api.OK)
			q.Some(id % 3)
		}
		if !slices.Equal(items, wasItems) || !slices.Equal(some, wasSome) {
			t.Errorf("%d: an answer changed: %v, %v", n, items, some)
		}
	}
}

// P2: what is asked changes nothing.
func TestAskingChangesNothing(t *testing.T) {
	for _, q := range queues(t) {
		was := q.Items()
		for range 5 {
			q.Items()
			q.Len()
			q.Some(0)
			q.Some(-1)
			Times(q.Len())
			wantItems(t, q, was...)
		}
	}
}

// plain is a queue done otherwise, word by word as the chapter tells it: by ID, with how often each was told.
type plain struct {
	room  int
	items map[int]*entry
	// What was to be told, and what came of it.
	past []*entry
}

// entry is one that was added.
type entry struct {
	r           record.Record
	times, told int
	over, out   bool
}

// above: is a over b? Spelt out, each part ahead of the next.
func above(a, b record.Record) bool {
	if a.Inc != b.Inc {
		return a.Inc > b.Inc
	}
	if a.State != b.State {
		return a.State > b.State
	}
	if a.Addr.IP != b.Addr.IP {
		return a.Addr.IP > b.Addr.IP
	}
	return a.Addr.Port > b.Addr.Port
}

// all: Items, found one by one, from 100 left down, and from ID 1 up.
func (p *plain) all() []Item {
	l := []Item{}
	for n := 100; n > 0; n-- {
		for id := 1; id <= 32; id++ {
			if x := p.items[id]; x != nil && x.times-x.told == n {
				l = append(l, item(x.r, n))
			}
		}
	}
	return l
}

// add: Add, of what is right.
func (p *plain) add(r record.Record, times int) api.Errno {
	if old := p.items[r.ID]; old != nil {
		if !above(r, old.r) {
			return api.ErrOld
		}
		old.over = true
	}
	x := &entry{r: r, times: times}
	p.items[r.ID] = x
	p.past = append(p.past, x)
	if l := p.all(); len(l) > p.room {
		id := l[len(l)-1].Record.ID
		p.items[id].out = true
		delete(p.items, id)
	}
	return api.OK
}

// some: Some.
func (p *plain) some(k int) []record.Record {
	l := []record.Record{}
	for _, x := range p.all() {
		if len(l) >= k {
			break
		}
		l = append(l, x.Record)
		e := p.items[x.Record.ID]
		if e.told++; e.told == e.times {
			delete(p.items, x.Record.ID)
		}
	}
	return l
}

// play does to a queue, and to a plain one, what is drawn.
type play struct {
	s     draw.Stream
	q     *Queue
	p     *plain
	ids   int
	times int
	incs  int
	told  map[record.Record]int
}

// newPlay: a play with a new queue, of so many IDs, told at most so often, and of Incs that slowly rise.
func newPlay(t *testing.T, seed uint64, room, ids, times int) *play {
	t.Helper()
	p := &plain{room: room, items: map[int]*entry{}}
	return &play{s: draw.New(seed), q: made(t, room), p: p, ids: ids, times: times, incs: 2, told: map[record.Record]int{}}
}

// below draws a number below n.
func (g *play) below(n int) int {
	k, s := g.s.Below(n)
	g.s = s
	return k
}

// record draws a right record.
func (g *play) record() record.Record {
	a := addr.Addr{IP: uint32(1 + g.below(2)), Port: uint16(1 + g.below(2))}
	return record.Record{ID: 1 + g.below(g.ids), State: g.below(4), Inc: uint32(g.below(g.incs)), Addr: a}
}

// step does one thing, and answers whether both did the same.
func (g *play) step() bool {
	switch k := g.below(20); {
	case k < 10:
		r, times := g.record(), 1+g.below(g.times)
		return g.q.Add(r, times) == g.p.add(r, times)
	case k < 17:
		n := g.below(g.ids+2) - 1
		got := g.q.Some(n)
		for _, r := range got {
			g.told[r]++
		}
		return slices.Equal(got, g.p.some(n))
	case k < 18:
		bad, times := notRight()[g.below(len(notRight()))], notTimes()[g.below(len(notTimes()))]
		return g.q.Add(bad, 1+g.below(g.times)) == api.ErrArg && g.q.Add(g.record(), times) == api.ErrArg
	}
	g.incs++
	return true
}

// wantToldAll: what was told, in all, is what the past tells; each was told its times, or went for what is over it or for room.
func (g *play) wantToldAll(t *testing.T) (full, over, out int) {
	t.Helper()
	want := map[record.Record]int{}
	for _, x := range g.p.past {
		if x.told > 0 {
			want[x.r] += x.told
		}
		switch {
		case x.told == x.times:
			full++
		case x.over:
			over++
		case x.out:
			out++
		default:
			t.Errorf("%v was told %d of %d times", x.r, x.told, x.times)
		}
	}
	if len(want) != len(g.told) {
		t.Errorf("%d were told, want %d", len(g.told), len(want))
	}
	for r, n := range want {
		if g.told[r] != n {
			t.Errorf("%v was told %d times, want %d", r, g.told[r], n)
		}
	}
	return full, over, out
}

// P12.1 to P12.3, T3: whatever is done, a queue does as the plain one, holds no more than its room,
// one of an ID; and at the end each was told as often as it was to be, unless one over it, or room, took its place.
func TestAsThePlainOne(t *testing.T) {
	full, over, out := 0, 0, 0
	for _, x := range []struct{ room, ids, times int }{{1, 2, 3}, {1, 5, 100}, {2, 4, 2}, {3, 9, 6}, {8, 12, 18}, {20, 32, 5}, {31, 32, 100}, {32, 32, 18}, {64, 32, 9}} {
		for seed := range uint64(5) {
			g := newPlay(t, seed*7919+uint64(x.room), x.room, x.ids, x.times)
			for i := range 800 {
				ok, items := g.step(), g.q.Items()
				if !ok || !slices.Equal(items, g.p.all()) || g.q.Len() != len(items) || len(items) > x.room {
					t.Fatalf("%v, seed %d, step %d: %v, want %v", x, seed, i, items, g.p.all())
				}
			}
			for g.q.Len() > 0 {
				n := 1 + g.below(4)
				for _, r := range g.q.Some(n) {
					g.told[r]++
				}
				g.p.some(n)
			}
			f, v, o := g.wantToldAll(t)
			full, over, out = full+f, over+v, out+o
		}
	}
	if full < 1000 || over < 1000 || out < 1000 {
		t.Errorf("the plays hold too little: %d told, %d over, %d out", full, over, out)
	}
}

// P4: two queues to which the same is done are the same, and neither has anything of the other.
func TestSameAgain(t *testing.T) {
	g, h := newPlay(t, 99, 5, 9, 7), newPlay(t, 99, 5, 9, 7)
	for range 700 {
		if !g.step() || !h.step() || !slices.Equal(g.q.Items(), h.q.Items()) {
			t.Fatal(g.q.Items(), h.q.Items())
		}
	}
}
