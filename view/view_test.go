package view

import (
	"math"
	"slices"
	"testing"

	"scuttlebutt/addr"
	"scuttlebutt/api"
	"scuttlebutt/draw"
	"scuttlebutt/record"
)

// The states, in short.
const (
	alive   = record.Alive
	suspect = record.Suspect
	dead    = record.Dead
	left    = record.Left
)

// home: an address that is not None.
var home = addr.Addr{IP: 0x0a000001, Port: 7000}

// rec: a record at home.
func rec(id, state int, inc uint32) record.Record {
	return record.Record{ID: id, State: state, Inc: inc, Addr: home}
}

// at: that record at another address.
func at(r record.Record, ip uint32, port uint16) record.Record {
	r.Addr = addr.Addr{IP: ip, Port: port}
	return r
}

// notRight: records that may not be; of each just one part is amiss, but of the last ones.
func notRight() []record.Record {
	l := []record.Record{}
	for _, id := range notIDs() {
		l = append(l, rec(id, alive, 9), rec(id, left, math.MaxUint32))
	}
	for _, state := range []int{-1, -2, 4, 5, 255, 256, 1 << 32, math.MaxInt64, math.MinInt64} {
		l = append(l, rec(1, state, 9), rec(2, state, math.MaxUint32), rec(32, state, 9))
	}
	for _, id := range []int{1, 2, 32} {
		l = append(l, record.Record{ID: id, Inc: 9}, at(rec(id, left, math.MaxUint32), 0, 1), at(rec(id, dead, 9), 1, 0))
	}
	return append(l, record.Record{}, record.Record{Addr: home}, record.Record{State: left, Inc: 9}, rec(33, 4, 9))
}

// notIDs: numbers that no node has.
func notIDs() []int {
	return []int{0, -1, -2, -32, -33, 33, 34, 64, 255, 256, 257, 1 << 32, 1<<32 + 1, math.MaxInt64, math.MinInt64, math.MinInt64 + 1}
}

// face is all that a view tells.
type face struct {
	members []record.Record
	live    []int
	events  []Event
	seen    uint64
}

// faceOf: what v tells now.
func faceOf(v *View) face { return face{v.Members(), v.Live(), v.Events(), v.Seen()} }

// same: do they tell the same? A list of nothing may be nil, or empty.
func (f face) same(g face) bool {
	return slices.Equal(f.members, g.members) && slices.Equal(f.live, g.live) && slices.Equal(f.events, g.events) && f.seen == g.seen
}

// made: a new view that took these, each of which turned something.
func made(t *testing.T, l ...record.Record) *View {
	t.Helper()
	v := New()
	if v == nil {
		t.Fatal("New: nil")
	}
	for _, r := range l {
		wantTake(t, v, r, true)
	}
	return v
}

// wantTake: Take must be OK, and answer that; what it took is what is known then; what it did not take changes nothing.
func wantTake(t *testing.T, v *View, r record.Record, want bool) {
	t.Helper()
	was := faceOf(v)
	if turned, e := v.Take(r); turned != want || e != api.OK {
		t.Errorf("Take(%v): %v, %d, want %v", r, turned, e, want)
	}
	if got, ok := v.Of(r.ID); want && (got != r || !ok) {
		t.Errorf("Of(%d): %v, %v, want %v", r.ID, got, ok, r)
	}
	if now := faceOf(v); !want && !now.same(was) {
		t.Errorf("Take(%v) took nothing, but: %v, was %v", r, now, was)
	}
}

// wantMembers: Members, and Of of each ID, must be these.
func wantMembers(t *testing.T, v *View, want ...record.Record) {
	t.Helper()
	if got := v.Members(); !slices.Equal(got, want) {
		t.Errorf("Members: %v, want %v", got, want)
	}
	known := map[int]record.Record{}
	for _, r := range want {
		known[r.ID] = r
	}
	for id := -1; id <= 34; id++ {
		r, is := known[id]
		if got, ok := v.Of(id); got != r || ok != is {
			t.Errorf("Of(%d): %v, %v, want %v, %v", id, got, ok, r, is)
		}
	}
}

// wantLive: Live must be these.
func wantLive(t *testing.T, v *View, want ...int) {
	t.Helper()
	if got := v.Live(); !slices.Equal(got, want) {
		t.Errorf("Live: %v, want %v", got, want)
	}
}

// wantEvents: Events must be these, and Seen as many.
func wantEvents(t *testing.T, v *View, want ...Event) {
	t.Helper()
	if got := v.Events(); !slices.Equal(got, want) || v.Seen() != uint64(len(want)) {
		t.Errorf("Events: %v, %d, want %v", got, v.Seen(), want)
	}
}

// The chapter's face: how many events are kept.
func TestRoom(t *testing.T) {
	if Room != 128 {
		t.Error(Room)
	}
}

// P11.1, P11.2: to a new view nobody is known, with no events, whatever is known to another one.
func TestNew(t *testing.T) {
	other := made(t, rec(1, alive, 0), rec(32, left, 9))
	v := made(t)
	wantMembers(t, v)
	wantLive(t, v)
	wantEvents(t, v)
	wantTake(t, v, rec(2, dead, 1), true)
	wantMembers(t, other, rec(1, alive, 0), rec(32, left, 9))
	wantMembers(t, made(t))
}

// P11.1: a right record of one that nobody knew is known then, whatever it is, with an Event that nobody was.
func TestTakeFirst(t *testing.T) {
	for id := 1; id <= 32; id++ {
		for state := range 4 {
			for _, inc := range []uint32{0, 1, 7, 1 << 31, math.MaxUint32} {
				for _, r := range []record.Record{rec(id, state, inc), at(rec(id, state, inc), 1, 1), at(rec(id, state, inc), math.MaxUint32, math.MaxUint16)} {
					v := made(t, r)
					wantMembers(t, v, r)
					wantEvents(t, v, Event{ID: id, Was: -1, Is: state, Inc: inc})
				}
			}
		}
	}
}

// P11.1, P2, P6: of what is not right Take is ErrArg, and nothing changes, whatever is known.
func TestTakeWrong(t *testing.T) {
	for _, v := range []*View{made(t), made(t, rec(1, alive, 0)), made(t, rec(2, left, 9), rec(1, dead, 3), rec(32, suspect, 1))} {
		was := faceOf(v)
		for _, r := range notRight() {
			if turned, e := v.Take(r); turned || e != api.ErrArg {
				t.Errorf("Take(%v): %v, %d", r, turned, e)
			}
			if now := faceOf(v); !now.same(was) {
				t.Fatalf("Take(%v): %v, was %v", r, now, was)
			}
		}
	}
}

// ladder: records of one node, each over those ahead of it by its Inc, its state, its IP or its port.
func ladder(id int) []record.Record {
	return []record.Record{
		at(rec(id, alive, 0), 1, 1),
		at(rec(id, alive, 0), 1, 2),
		at(rec(id, alive, 0), 2, 1),
		at(rec(id, suspect, 0), 1, 1),
		at(rec(id, dead, 0), 1, 1),
		at(rec(id, dead, 0), math.MaxUint32, 1),
		at(rec(id, left, 0), 1, 1),
		at(rec(id, alive, 1), 1, 1),
		at(rec(id, left, 1), 9, 9),
		at(rec(id, suspect, 1<<31), 1, 1),
		at(rec(id, alive, math.MaxUint32), 1, 1),
		at(rec(id, left, math.MaxUint32), math.MaxUint32, math.MaxUint16),
	}
}

// P11.1: of one that is known just what is Over that is taken: each pair of the ladder.
func TestTakeOver(t *testing.T) {
	l := ladder(5)
	for i, low := range l {
		for k, r := range l {
			v := made(t, low)
			wantTake(t, v, r, k > i)
			wantMembers(t, v, l[max(i, k)])
			wantTake(t, v, r, false)
			wantTake(t, v, low, false)
		}
	}
}

// P11.1: what is known of one doesn't hinder, nor change, what is known of another one.
func TestTakeEach(t *testing.T) {
	v := made(t, rec(4, left, math.MaxUint32), rec(6, dead, 7))
	wantTake(t, v, rec(5, alive, 0), true)
	wantTake(t, v, rec(3, suspect, 7), true)
	wantTake(t, v, rec(5, suspect, 0), true)
	wantTake(t, v, rec(6, suspect, 7), false)
	wantMembers(t, v, rec(3, suspect, 7), rec(4, left, math.MaxUint32), rec(5, suspect, 0), rec(6, dead, 7))
}

// P11.1: there is an Event just where the state is another one, of any Inc; it tells what was, what is, and the new Inc.
func TestTakeEvent(t *testing.T) {
	for was := range 4 {
		for is := range 4 {
			v := made(t, rec(7, was, 3), at(rec(7, is, 8), 3, 3))
			first := Event{ID: 7, Was: -1, Is: was, Inc: 3}
			if was == is {
				wantEvents(t, v, first)
			} else {
				wantEvents(t, v, first, Event{ID: 7, Was: was, Is: is, Inc: 8})
			}
		}
	}
}

// P11.1: of the ladder there is an Event of each other state alone; by an Inc or an address alone there is none.
func TestTakeEvents(t *testing.T) {
	v := made(t, ladder(9)...)
	wantEvents(t, v,
		Event{9, -1, alive, 0}, Event{9, alive, suspect, 0}, Event{9, suspect, dead, 0}, Event{9, dead, left, 0},
		Event{9, left, alive, 1}, Event{9, alive, left, 1}, Event{9, left, suspect, 1 << 31},
		Event{9, suspect, alive, math.MaxUint32}, Event{9, alive, left, math.MaxUint32})
}

// P11.1: what an Event tells that was is what was known ahead of it, also where that came without one.
func TestTakeEventWas(t *testing.T) {
	v := made(t, rec(1, alive, 0), rec(2, dead, 0), rec(1, alive, 4), rec(2, dead, 1), rec(1, suspect, 4), rec(2, alive, 2))
	wantEvents(t, v, Event{1, -1, alive, 0}, Event{2, -1, dead, 0}, Event{1, alive, suspect, 4}, Event{2, dead, alive, 2})
}

// P11.1, P6: of an ID that is none, or of which nothing is known, Of is false, with nothing beside it.
func TestOfNone(t *testing.T) {
	for _, v := range []*View{made(t), made(t, rec(1, alive, 0), rec(32, alive, 0))} {
		for _, id := range append(notIDs(), 2, 31) {
			if r, ok := v.Of(id); ok || r != (record.Record{}) {
				t.Errorf("Of(%d): %v, %v", id, r, ok)
			}
		}
	}
}

// P11.1: Members are by ID, rising, in whatever order they came; all of them may be known.
func TestMembers(t *testing.T) {
	v := made(t, rec(32, dead, 1), rec(2, left, 0), rec(17, suspect, 5), rec(1, alive, 9))
	wantMembers(t, v, rec(1, alive, 9), rec(2, left, 0), rec(17, suspect, 5), rec(32, dead, 1))
	all := []record.Record{}
	for id := 1; id <= 32; id++ {
		all = append(all, rec(id, id%4, uint32(id)))
	}
	back := slices.Clone(all)
	slices.Reverse(back)
	wantMembers(t, made(t, all...), all...)
	wantMembers(t, made(t, back...), all...)
}

// P11.1: Live are those alive and those suspect, by ID, rising, as they are now.
func TestLive(t *testing.T) {
	v := made(t, rec(32, alive, 1), rec(1, suspect, 1), rec(2, dead, 1), rec(3, left, 1), rec(30, alive, 1), rec(4, suspect, 1))
	wantLive(t, v, 1, 4, 30, 32)
	for _, x := range []struct {
		r    record.Record
		want []int
	}{
		{rec(1, dead, 1), []int{4, 30, 32}},
		{rec(32, left, 1), []int{4, 30}},
		{rec(30, suspect, 1), []int{4, 30}},
		{rec(2, alive, 2), []int{2, 4, 30}},
		{rec(3, suspect, 2), []int{2, 3, 4, 30}},
		{rec(32, alive, 2), []int{2, 3, 4, 30, 32}},
	} {
		wantTake(t, v, x.r, true)
		wantLive(t, v, x.want...)
	}
	wantLive(t, made(t, rec(1, dead, 0), rec(32, left, 0)))
}

// P11.1: all may be live.
func TestLiveAll(t *testing.T) {
	v, want := made(t), []int{}
	for id := 32; id >= 1; id-- {
		wantTake(t, v, rec(id, id%2, 0), true)
		want = append([]int{id}, want...)
		wantLive(t, v, want...)
	}
}

// P11.2: Events are the last Room of them, in order; Seen counts those that went, too.
func TestEventsRoom(t *testing.T) {
	v, all := made(t), []Event{}
	for k := range 3*Room + 5 {
		inc, is := uint32(k), k%2
		wantTake(t, v, rec(6, is, inc), true)
		all = append(all, Event{ID: 6, Was: 1 - is, Is: is, Inc: inc})
		all[0].Was = -1
		want := all[max(0, len(all)-Room):]
		if got := v.Events(); !slices.Equal(got, want) || v.Seen() != uint64(len(all)) {
			t.Fatalf("behind %d: %v, %d, want %v", len(all), got, v.Seen(), want)
		}
		// Without an event nothing is told anew, and nothing goes.
		wantTake(t, v, at(rec(6, is, inc), math.MaxUint32, 1), true)
		wantTake(t, v, rec(6, is, inc), false)
		if got := v.Events(); !slices.Equal(got, want) || v.Seen() != uint64(len(all)) {
			t.Fatalf("without an event: %v, %d, want %v", got, v.Seen(), want)
		}
	}
}

// wantMerge: Merge must be OK, and answer these.
func wantMerge(t *testing.T, v *View, l []record.Record, want ...record.Record) {
	t.Helper()
	if got, e := v.Merge(l); !slices.Equal(got, want) || e != api.OK {
		t.Errorf("Merge(%v): %v, %d, want %v", l, got, e, want)
	}
}

// P11.2: Merge takes each, in order, and answers those that turned something, each as often as it did.
func TestMerge(t *testing.T) {
	v := made(t, rec(3, suspect, 2), rec(1, alive, 5))
	l := []record.Record{rec(9, dead, 0), rec(3, alive, 2), rec(3, dead, 2), rec(1, alive, 5), rec(9, dead, 0), rec(9, left, 0), rec(3, suspect, 2), at(rec(1, alive, 5), 0x0a000002, 1), rec(2, left, 1)}
	wantMerge(t, v, l, l[0], l[2], l[5], l[7], l[8])
	wantMembers(t, v, l[7], l[8], l[2], l[5])
	wantEvents(t, v, Event{3, -1, suspect, 2}, Event{1, -1, alive, 5}, Event{9, -1, dead, 0}, Event{3, suspect, dead, 2}, Event{9, dead, left, 0}, Event{2, -1, left, 1})
	wantMerge(t, v, l)
	wantMerge(t, v, nil)
	wantMerge(t, v, []record.Record{})
	wantMerge(t, v, []record.Record{rec(4, alive, 0)}, rec(4, alive, 0))
}

// P11.2: of a node's records it matters in which order they stand: those below an earlier one turn nothing.
func TestMergeOrder(t *testing.T) {
	l := ladder(8)
	wantMerge(t, made(t), l, l...)
	back := slices.Clone(l)
	slices.Reverse(back)
	wantMerge(t, made(t), back, back[0])
}

// P11.2: a list may be of any length.
func TestMergeLong(t *testing.T) {
	v, l := made(t), []record.Record{}
	for k := range 5000 {
		l = append(l, rec(1+k%32, k%3%2, uint32(k/32)))
	}
	wantMerge(t, v, l, l...)
	w := made(t, l...)
	if f := faceOf(v); !f.same(faceOf(w)) || len(f.events) != Room || f.seen <= Room {
		t.Error(f, faceOf(w))
	}
}

// P11.2, P2: if one is not right, wherever it stands, Merge is ErrArg, with no list, and takes nothing.
func TestMergeWrong(t *testing.T) {
	good := []record.Record{rec(1, left, 9), rec(5, alive, 0), rec(2, suspect, 1)}
	for _, v := range []*View{made(t), made(t, rec(1, dead, 1), rec(3, alive, 1))} {
		was := faceOf(v)
		for _, bad := range notRight() {
			lists := [][]record.Record{{bad}, {bad, bad}}
			for k := range len(good) + 1 {
				lists = append(lists, slices.Insert(slices.Clone(good), k, bad))
			}
			for _, l := range lists {
				if got, e := v.Merge(l); len(got) != 0 || e != api.ErrArg {
					t.Errorf("Merge(%v): %v, %d", l, got, e)
				}
				if now := faceOf(v); !now.same(was) {
					t.Fatalf("Merge(%v): %v, was %v", l, now, was)
				}
			}
		}
	}
}

// P3: Merge writes neither into its list nor behind it, and keeps none of it.
func TestMergeLeavesList(t *testing.T) {
	whole := []record.Record{rec(1, alive, 1), rec(1, alive, 0), rec(2, dead, 1), rec(2, dead, 1), rec(3, left, 3), rec(4, left, 4)}
	was := slices.Clone(whole)
	v := made(t)
	got, _ := v.Merge(whole[:4])
	if !slices.Equal(whole, was) {
		t.Error("Merge wrote into its list:", whole)
	}
	for k := range whole {
		whole[k] = rec(31, left, 666)
	}
	if !slices.Equal(got, []record.Record{was[0], was[2]}) {
		t.Error("what Merge answered is its list:", got)
	}
	wantMembers(t, v, was[0], was[2])
}

// spoil writes x into all of l, and into its spare room.
func spoil[T any](l []T, x T) {
	whole := l[:cap(l)]
	for k := range whole {
		whole[k] = x
	}
}

// spoilAnswers writes into all that the view answers.
func spoilAnswers(v *View) {
	spoil(v.Members(), rec(31, left, 666))
	spoil(v.Live(), 666)
	spoil(v.Events(), Event{ID: 666})
}

// P3: answers are new memory, with their spare room, and stay as they were told.
func TestAnswersAreNew(t *testing.T) {
	for _, n := range []int{3, Room - 1, Room, Room + 1, 2*Room + 7} {
		v := made(t)
		for k := range n {
			wantTake(t, v, rec(1+k%3, k/3%2, uint32(k)), true)
		}
		was := face{slices.Clone(v.Members()), slices.Clone(v.Live()), slices.Clone(v.Events()), v.Seen()}
		spoilAnswers(v)
		if now := faceOf(v); !now.same(was) {
			t.Errorf("what is known changed by what was answered: %v, was %v", now, was)
		}
		told := faceOf(v)
		merged, _ := v.Merge([]record.Record{rec(1, dead, 1000), rec(7, alive, 0), rec(2, left, 1000), rec(3, dead, 1000)})
		if !told.same(was) {
			t.Errorf("an answer changed: %v, was %v", told, was)
		}
		was = faceOf(v)
		spoil(merged, rec(31, left, 666))
		if now := faceOf(v); !now.same(was) {
			t.Errorf("what is known changed by what Merge answered: %v, was %v", now, was)
		}
	}
}

// P2: what is asked changes nothing.
func TestAskingChangesNothing(t *testing.T) {
	v := made(t, rec(3, alive, 1), rec(1, dead, 2), rec(32, suspect, 0))
	was := faceOf(v)
	for id := -2; id <= 40; id++ {
		v.Of(id)
		v.Members()
		v.Live()
		v.Events()
		v.Seen()
		v.Merge(nil)
	}
	if now := faceOf(v); !now.same(was) {
		t.Errorf("%v, was %v", now, was)
	}
}

// orders calls f with l in each order that there is.
func orders(l []record.Record, f func([]record.Record)) {
	var from func(k int)
	from = func(k int) {
		if k == len(l) {
			f(l)
			return
		}
		for i := k; i < len(l); i++ {
			l[k], l[i] = l[i], l[k]
			from(k + 1)
			l[k], l[i] = l[i], l[k]
		}
	}
	from(0)
}

// P11.3: in whatever order, by Take or by Merge, once or twice, the same records come to the same members.
func TestAnyOrder(t *testing.T) {
	top, other := at(rec(2, dead, 1), 7, 9), rec(4, left, 0)
	l := []record.Record{rec(2, alive, 1), rec(2, left, 0), at(rec(2, dead, 1), 7, 8), top, at(rec(2, suspect, 1), 9, 9), other, rec(4, alive, 0)}
	count := 0
	orders(l, func(o []record.Record) {
		count++
		v, w := New(), New()
		for _, r := range o {
			v.Take(r)
		}
		for _, m := range [][]record.Record{o[3:], o[:4], o} {
			if _, e := w.Merge(m); e != api.OK {
				t.Fatal(e)
			}
		}
		for _, got := range [][]record.Record{v.Members(), w.Members()} {
			if !slices.Equal(got, []record.Record{top, other}) {
				t.Fatalf("%v: %v", o, got)
			}
		}
	})
	if count != 5040 {
		t.Error(count)
	}
}

// plain is a view done otherwise, word by word as the chapter tells it: by ID, in no order, with all events.
type plain struct {
	known  map[int]record.Record
	events []Event
}

// above: is a over b? Spelt out, each part ahead of the next.
func above(a, b record.Record) bool {
	if a.Inc != b.Inc {
		return a.Inc > b.Inc
	}
	if a.State != b.State {
		return a.State > b.State
	}
	if a.Addr.IP != b.Addr.IP {
		return a.Addr.IP > b.Addr.IP
	}
	return a.Addr.Port > b.Addr.Port
}

// take: Take, of a right record.
func (p *plain) take(r record.Record) bool {
	old, ok := p.known[r.ID]
	if ok && !above(r, old) {
		return false
	}
	p.known[r.ID] = r
	switch {
	case !ok:
		p.events = append(p.events, Event{r.ID, -1, r.State, r.Inc})
	case old.State != r.State:
		p.events = append(p.events, Event{r.ID, old.State, r.State, r.Inc})
	}
	return true
}

// merge: Merge, of right records.
func (p *plain) merge(l []record.Record) []record.Record {
	turned := []record.Record{}
	for _, r := range l {
		if p.take(r) {
			turned = append(turned, r)
		}
	}
	return turned
}

// face: all that it tells.
func (p *plain) face() face {
	f := face{events: p.events[max(0, len(p.events)-Room):], seen: uint64(len(p.events))}
	for id, r := range p.known {
		f.members = append(f.members, r)
		if r.State < 2 {
			f.live = append(f.live, id)
		}
	}
	slices.SortFunc(f.members, func(a, b record.Record) int { return a.ID - b.ID })
	slices.Sort(f.live)
	return f
}

// play does to a view, and to a plain one, what is drawn.
type play struct {
	s    draw.Stream
	v    *View
	p    *plain
	ids  int
	incs int
	seen []record.Record
}

// newPlay: a play with a new view, of so many IDs, and of Incs that slowly rise.
func newPlay(t *testing.T, seed uint64, ids int) *play {
	t.Helper()
	return &play{s: draw.New(seed), v: made(t), p: &plain{known: map[int]record.Record{}}, ids: ids, incs: 2}
}

// below draws a number below n.
func (g *play) below(n int) int {
	k, s := g.s.Below(n)
	g.s = s
	return k
}

// record draws a right record, and remembers it.
func (g *play) record() record.Record {
	a := addr.Addr{IP: uint32(1 + g.below(2)), Port: uint16(1 + g.below(2))}
	r := record.Record{ID: 1 + g.below(g.ids), State: g.below(4), Inc: uint32(g.below(g.incs)), Addr: a}
	g.seen = append(g.seen, r)
	return r
}

// step does one thing, and answers whether both did the same.
func (g *play) step() bool {
	switch k := g.below(20); {
	case k < 14:
		r := g.record()
		turned, e := g.v.Take(r)
		return turned == g.p.take(r) && e == api.OK
	case k < 16:
		l := []record.Record{}
		for range g.below(6) {
			l = append(l, g.record())
		}
		turned, e := g.v.Merge(l)
		return slices.Equal(turned, g.p.merge(l)) && e == api.OK
	case k < 18:
		bad := notRight()[g.below(len(notRight()))]
		l, e := g.v.Merge([]record.Record{{ID: 1 + g.below(g.ids), State: left, Inc: math.MaxUint32, Addr: home}, bad})
		turned, f := g.v.Take(bad)
		return len(l) == 0 && !turned && e == api.ErrArg && f == api.ErrArg
	}
	g.incs++
	return true
}

// P11.1 to P11.3, T2, T3: whatever is done, a view does as the plain one; what is known
// only rises; and what was seen comes to the same members in another order, too.
func TestAsThePlainOne(t *testing.T) {
	for _, ids := range []int{1, 2, 5, 12, 32} {
		for seed := range uint64(6) {
			g := newPlay(t, seed*7919+uint64(ids), ids)
			for i := range 900 {
				was := g.v.Members()
				if ok, now := g.step(), faceOf(g.v); !ok || !now.same(g.p.face()) {
					t.Fatalf("%d, seed %d, step %d: %v, want %v", ids, seed, i, now, g.p.face())
				}
				for _, old := range was {
					if r, ok := g.v.Of(old.ID); !ok || r != old && !above(r, old) {
						t.Fatalf("%d, seed %d, step %d: %v, was %v", ids, seed, i, r, old)
					}
				}
			}
			if ids >= 12 && g.v.Seen() <= Room {
				t.Errorf("%d, seed %d: no more than %d events", ids, seed, g.v.Seen())
			}
			slices.Reverse(g.seen)
			w := New()
			w.Merge(g.seen)
			wantMembers(t, w, g.v.Members()...)
		}
	}
}

// P4: two views to which the same is done are the same, and neither has anything of the other.
func TestSameAgain(t *testing.T) {
	g, h := newPlay(t, 99, 7), newPlay(t, 99, 7)
	for range 700 {
		if !g.step() || !h.step() || !faceOf(g.v).same(faceOf(h.v)) {
			t.Fatal(faceOf(g.v), faceOf(h.v))
		}
	}
}
