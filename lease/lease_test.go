package lease

import (
	"math"
	"slices"
	"testing"

	"scuttlebutt/addr"
	"scuttlebutt/api"
	"scuttlebutt/draw"
)

// notIDs: numbers that no node has.
func notIDs() []int {
	return []int{0, -1, -2, -32, -33, 33, 34, 64, 255, 256, 257, 1 << 32, 1<<32 + 1, math.MaxInt64, math.MinInt64, math.MinInt64 + 1}
}

// notLeases: how many leases there may not be.
func notLeases() []int {
	return []int{0, -1, -8, 9, 10, 16, 32, 256, 257, 1 << 32, 1<<32 + 1, math.MaxInt64, math.MinInt64, math.MinInt64 + 1}
}

// notSpans: for which time nothing holds, and nobody waits.
func notSpans() []uint64 {
	return []uint64{0, 1000001, 1000002, 1 << 20, 1 << 32, 1<<32 + 1, 1 << 62, 1 << 63, 1<<63 + 1, math.MaxUint64}
}

// notNows: times at which nothing is granted, and nobody is asked.
func notNows() []uint64 {
	return []uint64{1<<62 + 1, 1<<62 + 2, 1<<62 + 1000001, 1 << 63, 1<<63 + 1, math.MaxUint64 - 1000000, math.MaxUint64}
}

// nows: times at which one may, rising.
func nows() []uint64 { return []uint64{0, 1, 10, 1 << 32, 1<<62 - 1, 1 << 62} }

// spans: times that may be, from the least to the most.
func spans() []uint64 { return []uint64{1, 2, 7, 999999, 1000000} }

// at: an address.
func at(ip uint32, port uint16) addr.Addr { return addr.Addr{IP: ip, Port: port} }

// nones: addresses that lead nowhere.
func nones() []addr.Addr {
	return []addr.Addr{{}, at(0, 1), at(0, 65535), at(1, 0), at(1<<24, 0), at(math.MaxUint32, 0)}
}

// client: a Client.
func client(id int, a addr.Addr, until uint64) Client { return Client{ID: id, Addr: a, Until: until} }

// table: a table with no clients.
func table(t *testing.T, room int, hold uint64) *Table {
	t.Helper()
	x, e := NewTable(room, hold)
	if x == nil || e != api.OK {
		t.Fatalf("NewTable(%d, %d): %v, %d", room, hold, x, e)
	}
	return x
}

// leases: leases of which none is held.
func leases(t *testing.T, want int, wait uint64) *Leases {
	t.Helper()
	l, e := NewLeases(want, wait)
	if l == nil || e != api.OK {
		t.Fatalf("NewLeases(%d, %d): %v, %d", want, wait, l, e)
	}
	return l
}

// stays: behind what is told to have done nothing, now must be what it was.
func stays[T comparable](t *testing.T, now, was T, what ...any) {
	t.Helper()
	if now != was {
		t.Fatalf("%v changed something: %v, was %v", what, now, was)
	}
}

// wantGrant: Grant must answer that; with an error nothing changes.
func wantGrant(t *testing.T, x *Table, id int, a addr.Addr, now, until uint64, want api.Errno) {
	t.Helper()
	was := *x
	if got, e := x.Grant(id, a, now); got != until || e != want {
		t.Errorf("Grant(%d, %v, %d): %d, %d, want %d, %d", id, a, now, got, e, until, want)
	}
	if want != api.OK {
		stays(t, *x, was, "Grant", id, a, now)
	}
}

// wantOf: Of must be that at now, false if it leads nowhere, and asking changes nothing.
func wantOf(t *testing.T, x *Table, id int, now uint64, want addr.Addr) {
	t.Helper()
	was := *x
	if got, ok := x.Of(id, now); got != want || ok == want.None() {
		t.Errorf("Of(%d, %d): %v, %v, want %v", id, now, got, ok, want)
	}
	stays(t, *x, was, "Of", id, now)
}

// wantRelease: Release must answer that; with false nothing changes.
func wantRelease(t *testing.T, x *Table, id int, want bool) {
	t.Helper()
	was := *x
	if ok := x.Release(id); ok != want {
		t.Errorf("Release(%d): %v, want %v", id, ok, want)
	}
	if !want {
		stays(t, *x, was, "Release", id)
	}
}

// wantSweep: Sweep of a table must answer these; of nobody nothing changes.
func wantSweep(t *testing.T, x *Table, now uint64, want ...int) {
	t.Helper()
	was := *x
	if got := x.Sweep(now); !slices.Equal(got, want) {
		t.Errorf("Sweep(%d): %v, want %v", now, got, want)
	}
	if len(want) == 0 {
		stays(t, *x, was, "Sweep", now)
	}
}

// wantClients: Clients must be these, twice.
func wantClients(t *testing.T, x *Table, want ...Client) {
	t.Helper()
	was := *x
	for range 2 {
		if got := x.Clients(); !slices.Equal(got, want) {
			t.Errorf("Clients: %v, want %v", got, want)
		}
	}
	stays(t, *x, was, "Clients")
}

// wantAsk: Ask must answer these; of nobody nothing changes.
func wantAsk(t *testing.T, l *Leases, now uint64, me complex128, ids []int, places []complex128, want ...int) {
	t.Helper()
	was := *l
	if got := l.Ask(now, me, ids, places); !slices.Equal(got, want) {
		t.Errorf("Ask(%d, %v, %v, %v): %v, want %v", now, me, ids, places, got, want)
	}
	if len(want) == 0 {
		stays(t, *l, was, "Ask", now, ids)
	}
}

// wantGot: Got must answer that; with false nothing changes.
func wantGot(t *testing.T, l *Leases, id int, until, now uint64, want bool) {
	t.Helper()
	was := *l
	if ok := l.Got(id, until, now); ok != want {
		t.Errorf("Got(%d, %d, %d): %v, want %v", id, until, now, ok, want)
	}
	if !want {
		stays(t, *l, was, "Got", id, until, now)
	}
}

// wantLost: Lost must answer that; with false nothing changes.
func wantLost(t *testing.T, l *Leases, id int, want bool) {
	t.Helper()
	was := *l
	if ok := l.Lost(id); ok != want {
		t.Errorf("Lost(%d): %v, want %v", id, ok, want)
	}
	if !want {
		stays(t, *l, was, "Lost", id)
	}
}

// wantHeld: Held must be these at now, twice.
func wantHeld(t *testing.T, l *Leases, now uint64, want ...int) {
	t.Helper()
	was := *l
	for range 2 {
		if got := l.Held(now); !slices.Equal(got, want) {
			t.Errorf("Held(%d): %v, want %v", now, got, want)
		}
	}
	stays(t, *l, was, "Held", now)
}

// wantEnded: Sweep of leases must answer these; of nobody nothing changes.
func wantEnded(t *testing.T, l *Leases, now uint64, want ...int) {
	t.Helper()
	was := *l
	if got := l.Sweep(now); !slices.Equal(got, want) {
		t.Errorf("Sweep(%d): %v, want %v", now, got, want)
	}
	if len(want) == 0 {
		stays(t, *l, was, "Sweep", now)
	}
}

// all: the numbers of all nodes, and a place of each: the greater the number, the farther from 0.
func all() ([]int, []complex128) {
	ids, places := []int{}, []complex128{}
	for id := 1; id <= 32; id++ {
		ids, places = append(ids, id), append(places, complex(0, float64(id)))
	}
	return ids, places
}

// asked: leases for which these were asked at 0.
func asked(t *testing.T, want int, wait uint64, ids ...int) *Leases {
	t.Helper()
	l := leases(t, want, wait)
	for _, id := range ids {
		wantAsk(t, l, 0, 0, []int{id}, []complex128{0}, id)
	}
	return l
}

// P17.1: of each that may be a new table has no clients, whatever another one has.
func TestNewTable(t *testing.T) {
	other := table(t, 1, 1)
	wantGrant(t, other, 3, at(1, 1), 0, 1, api.OK)
	for room := 1; room <= 8; room++ {
		for _, hold := range spans() {
			x := table(t, room, hold)
			wantClients(t, x)
			for id := 1; id <= 32; id++ {
				wantOf(t, x, id, 0, addr.Addr{})
				wantRelease(t, x, id, false)
			}
			for _, now := range append(nows(), notNows()...) {
				wantSweep(t, x, now)
			}
		}
	}
	wantClients(t, other, client(3, at(1, 1), 1))
}

// P17.1, P17.2, P2, P6: of a room, a want, a hold and a wait that may not be there is none, and ErrArg.
func TestNewRefuses(t *testing.T) {
	refused := func(n int, span uint64) {
		t.Helper()
		if x, e := NewTable(n, span); x != nil || e != api.ErrArg {
			t.Errorf("NewTable(%d, %d): %v, %d", n, span, x, e)
		}
		if l, e := NewLeases(n, span); l != nil || e != api.ErrArg {
			t.Errorf("NewLeases(%d, %d): %v, %d", n, span, l, e)
		}
	}
	for _, n := range notLeases() {
		for _, span := range append(notSpans(), 1, 1000000) {
			refused(n, span)
		}
	}
	for n := 1; n <= 8; n++ {
		for _, span := range notSpans() {
			refused(n, span)
		}
	}
}

// P17.1: each of what may be is granted, up to the edges: till now and hold, just, and that is told.
func TestGrant(t *testing.T) {
	for id := 1; id <= 32; id++ {
		for _, hold := range spans() {
			for _, now := range nows() {
				a, x := at(uint32(id), uint16(hold)), table(t, 1, hold)
				wantGrant(t, x, id, a, now, now+hold, api.OK)
				wantClients(t, x, client(id, a, now+hold))
				wantOf(t, x, id, now, a)
				wantOf(t, x, id, now+hold-1, a)
				wantOf(t, x, id, now+hold, addr.Addr{})
			}
		}
	}
}

// P17.1, P2, P6: of who is no node, of an address that leads nowhere, and at a later time Grant is ErrArg, though there is no room: nothing changes, nobody is swept.
func TestGrantRefuses(t *testing.T) {
	full := table(t, 2, 10)
	wantGrant(t, full, 4, at(1, 1), 0, 10, api.OK)
	wantGrant(t, full, 32, at(1, 1), 5, 15, api.OK)
	free := table(t, 8, 1)
	wantGrant(t, free, 17, at(1, 1), 0, 1, api.OK)
	for _, x := range []*Table{full, free} {
		for _, now := range []uint64{0, 12, 1 << 62} {
			for _, id := range notIDs() {
				wantGrant(t, x, id, at(9, 9), now, 0, api.ErrArg)
			}
			for _, id := range []int{1, 4, 17, 32} {
				for _, a := range nones() {
					wantGrant(t, x, id, a, now, 0, api.ErrArg)
				}
			}
		}
		for _, now := range notNows() {
			for _, id := range []int{0, 1, 4, 17, 32} {
				wantGrant(t, x, id, at(9, 9), now, 0, api.ErrArg)
				wantGrant(t, x, id, addr.Addr{}, now, 0, api.ErrArg)
			}
		}
	}
}

// P17.1, P17.4: where there is no room another one is ErrFull, and nothing changes; who is a client may be granted again.
func TestGrantFull(t *testing.T) {
	for room := 1; room <= 8; room++ {
		x := table(t, room, 10)
		for k := range room {
			wantGrant(t, x, 32-3*k, at(1, 1), 0, 10, api.OK)
		}
		for _, now := range []uint64{0, 5, 9} {
			for id := 1; id <= 32; id++ {
				if id <= 32-3*room || (32-id)%3 != 0 {
					wantGrant(t, x, id, at(2, 2), now, 0, api.ErrFull)
				}
			}
		}
		wantGrant(t, x, 32, at(3, 3), 9, 19, api.OK)
		wantGrant(t, x, 1, at(2, 2), 9, 0, api.ErrFull)
		if n := len(x.Clients()); n != room {
			t.Errorf("%d clients, room for %d", n, room)
		}
	}
}

// P17.1: whose time is up at now makes room, just then; all of them go, also where there was room, and where it is a client that is granted.
func TestGrantSweeps(t *testing.T) {
	a, b := at(1, 1), at(2, 2)
	for _, c := range []struct {
		id     int
		now    uint64
		until  uint64
		e      api.Errno
		behind []Client
	}{
		{9, 9, 0, api.ErrFull, []Client{client(2, a, 12), client(5, a, 10), client(7, a, 14)}},
		{9, 10, 20, api.OK, []Client{client(2, a, 12), client(7, a, 14), client(9, b, 20)}},
		{9, 12, 22, api.OK, []Client{client(7, a, 14), client(9, b, 22)}},
		{9, 14, 24, api.OK, []Client{client(9, b, 24)}},
		{7, 9, 19, api.OK, []Client{client(2, a, 12), client(5, a, 10), client(7, b, 19)}},
		{7, 10, 20, api.OK, []Client{client(2, a, 12), client(7, b, 20)}},
		{7, 13, 23, api.OK, []Client{client(7, b, 23)}},
		{5, 10, 20, api.OK, []Client{client(2, a, 12), client(5, b, 20), client(7, a, 14)}},
		{5, 1 << 62, 1<<62 + 10, api.OK, []Client{client(5, b, 1<<62+10)}},
	} {
		x := table(t, 3, 10)
		wantGrant(t, x, 5, a, 0, 10, api.OK)
		wantGrant(t, x, 2, a, 2, 12, api.OK)
		wantGrant(t, x, 7, a, 4, 14, api.OK)
		wantGrant(t, x, c.id, b, c.now, c.until, c.e)
		wantClients(t, x, c.behind...)
	}
}

// P17.1: who is granted again is at the new address, till now and hold, also at an earlier time; the others stay.
func TestGrantAgain(t *testing.T) {
	for _, was := range nows() {
		for _, now := range nows() {
			x := table(t, 3, 5)
			wantGrant(t, x, 6, at(3, 3), was, was+5, api.OK)
			wantGrant(t, x, 6, at(4, 4), now, now+5, api.OK)
			wantClients(t, x, client(6, at(4, 4), now+5))
		}
	}
	x := table(t, 3, 5)
	for id := 5; id <= 7; id++ {
		wantGrant(t, x, id, at(1, 1), 9, 14, api.OK)
	}
	wantGrant(t, x, 6, at(2, 2), 3, 8, api.OK)
	wantClients(t, x, client(5, at(1, 1), 14), client(6, at(2, 2), 8), client(7, at(1, 1), 14))
}

// P17.1, P6: of who is no client there is no address; of who is one there is till its time is up, at any time of 64 bits.
func TestOf(t *testing.T) {
	x := table(t, 8, 1000000)
	wantGrant(t, x, 1, at(1, 1), 0, 1000000, api.OK)
	wantGrant(t, x, 32, at(32, 32), 1<<62, 1<<62+1000000, api.OK)
	wantOf(t, x, 1, 0, addr.Addr{})
	wantGrant(t, x, 1, at(1, 1), 0, 1000000, api.OK)
	for _, now := range []uint64{0, 1, 999999, 1000000, 1000001, 1 << 62, 1<<62 + 1, 1<<62 + 999999, 1<<62 + 1000000, 1<<62 + 1000001, 1 << 63, math.MaxUint64} {
		one, last := at(1, 1), at(32, 32)
		if now >= 1000000 {
			one = addr.Addr{}
		}
		if now >= 1<<62+1000000 {
			last = addr.Addr{}
		}
		wantOf(t, x, 1, now, one)
		wantOf(t, x, 32, now, last)
		for _, id := range append(notIDs(), 2, 16, 31) {
			wantOf(t, x, id, now, addr.Addr{})
		}
	}
}

// P17.1, P6: who is released was a client, also if its time is up; it is no more, just it, and there is room.
func TestRelease(t *testing.T) {
	x := table(t, 2, 10)
	wantGrant(t, x, 1, at(1, 1), 0, 10, api.OK)
	wantGrant(t, x, 32, at(2, 2), 0, 10, api.OK)
	for _, id := range append(notIDs(), 2, 31) {
		wantRelease(t, x, id, false)
	}
	wantRelease(t, x, 32, true)
	wantRelease(t, x, 32, false)
	wantOf(t, x, 32, 0, addr.Addr{})
	wantClients(t, x, client(1, at(1, 1), 10))
	wantGrant(t, x, 5, at(5, 5), 1, 11, api.OK)
	wantOf(t, x, 1, 10, addr.Addr{})
	wantRelease(t, x, 1, true)
	wantRelease(t, x, 1, false)
	wantClients(t, x, client(5, at(5, 5), 11))
}

// P17.1: swept are those whose time is up, just then, by ID, each once; till then they are told as clients.
func TestSweep(t *testing.T) {
	made := func() *Table {
		x := table(t, 4, 10)
		for _, c := range []struct {
			id  int
			now uint64
		}{{32, 0}, {7, 3}, {1, 1}, {9, 3}} {
			wantGrant(t, x, c.id, at(1, 1), c.now, c.now+10, api.OK)
		}
		return x
	}
	for _, c := range []struct {
		now         uint64
		ended, left []int
	}{
		{0, nil, []int{1, 7, 9, 32}}, {9, nil, []int{1, 7, 9, 32}}, {10, []int{32}, []int{1, 7, 9}}, {11, []int{1, 32}, []int{7, 9}}, {12, []int{1, 32}, []int{7, 9}},
		{13, []int{1, 7, 9, 32}, nil}, {1 << 62, []int{1, 7, 9, 32}, nil}, {1 << 63, []int{1, 7, 9, 32}, nil}, {math.MaxUint64, []int{1, 7, 9, 32}, nil},
	} {
		x := made()
		wantSweep(t, x, c.now, c.ended...)
		wantSweep(t, x, c.now)
		left := []int{}
		for _, one := range x.Clients() {
			left = append(left, one.ID)
		}
		if !slices.Equal(left, c.left) {
			t.Errorf("%d: left are %v, want %v", c.now, left, c.left)
		}
	}
	late := table(t, 1, 1000000)
	wantGrant(t, late, 2, at(1, 1), 1<<62, 1<<62+1000000, api.OK)
	wantSweep(t, late, 1<<62+999999)
	wantSweep(t, late, 1<<62+1000000, 2)
}

// P17.1: clients are told by ID, in whatever order they came.
func TestClientsByID(t *testing.T) {
	for seed := range uint64(20) {
		ids, _ := all()
		order, _ := draw.New(seed).Some(ids, 8)
		x, want := table(t, 8, 9), []Client{}
		for k, id := range order {
			c := client(id, at(uint32(33-id), uint16(1+k)), uint64(k+9))
			wantGrant(t, x, id, c.Addr, uint64(k), c.Until, api.OK)
			want = append(want, c)
		}
		slices.SortFunc(want, func(a, b Client) int { return a.ID - b.ID })
		wantClients(t, x, want...)
	}
}

// P17.2: of each that may be, new ones hold nobody, and nobody was asked; whatever others hold.
func TestNewLeases(t *testing.T) {
	other := asked(t, 1, 5, 3)
	wantGot(t, other, 3, 7, 0, true)
	for want := 1; want <= 8; want++ {
		for _, wait := range spans() {
			l := leases(t, want, wait)
			for _, now := range append(nows(), notNows()...) {
				wantHeld(t, l, now)
				wantEnded(t, l, now)
			}
			for id := 1; id <= 32; id++ {
				wantGot(t, l, id, 9, 0, false)
				wantLost(t, l, id, false)
			}
		}
	}
	wantHeld(t, other, 6, 3)
}

// P17.2: as many are asked as are wanted, and at each time that may be; who is nearest to me is asked first, wherever it stands.
func TestAsk(t *testing.T) {
	ids, places := all()
	for want := 1; want <= 8; want++ {
		for _, now := range nows() {
			wantAsk(t, leases(t, want, 1), now, 0, ids, places, ids[:want]...)
			wantAsk(t, leases(t, want, 1), now, 40i, ids, places, []int{32, 31, 30, 29, 28, 27, 26, 25}[:want]...)
			wantAsk(t, leases(t, want, 1), now, 0, ids[:1], places[:1], 1)
			wantAsk(t, leases(t, want, 1), now, 0, nil, nil)
			wantAsk(t, leases(t, want, 1), now, 0, []int{}, nil)
		}
	}
	wantAsk(t, leases(t, 3, 1), 0, 1+1i, []int{8, 2, 6, 4}, []complex128{9, 3 + 1i, -1 - 1i, 1}, 4, 2, 6)
}

// P17.2: of those that are as far who stands first is asked first; a place that is not right counts as 0.
func TestAskOfTheSame(t *testing.T) {
	wantAsk(t, leases(t, 4, 1), 0, 0, []int{9, 3, 7, 5, 1}, []complex128{2, 2i, -2, 1, -2i}, 5, 9, 3, 7)
	strange := []complex128{1, complex(math.NaN(), 5), complex(0.5, 0), complex(math.Inf(1), 1), 2}
	wantAsk(t, leases(t, 8, 1), 0, 0, []int{4, 8, 2, 6, 1}, strange, 8, 2, 6, 4, 1)
	wantAsk(t, leases(t, 8, 1), 0, complex(math.NaN(), 0), []int{4, 8, 2, 6, 1}, strange, 8, 2, 6, 4, 1)
	wantAsk(t, leases(t, 2, 1), 0, 2000000, []int{4, 8, 2, 6, 1}, strange, 8, 2)
}

// P17.2, P6: nobody is asked at a later time, or if ids and places are not as many; and nobody counts as asked.
func TestAskRefuses(t *testing.T) {
	ids, places := all()
	l := asked(t, 8, 5, 3)
	wantGot(t, l, 3, 7, 0, true)
	for _, now := range notNows() {
		wantAsk(t, l, now, 0, ids, places)
	}
	for _, n := range []int{0, 1, 31} {
		wantAsk(t, l, 6, 0, ids, places[:n])
		wantAsk(t, l, 6, 0, ids[:n], places)
	}
	wantAsk(t, l, 6, 0, ids, nil)
	wantAsk(t, l, 6, 0, nil, places)
	wantGot(t, l, 1, 9, 0, false)
}

// P17.2, P6: who is no node is asked never, and takes nobody's turn; the others are by their own places.
func TestAskNodesAlone(t *testing.T) {
	ids, places := []int{}, []complex128{}
	for k, id := range notIDs() {
		ids, places = append(ids, id), append(places, 0)
		if k < 4 {
			ids, places = append(ids, 10+k), append(places, complex(float64(9-k), 0))
		}
	}
	wantAsk(t, leases(t, 8, 1), 0, 0, ids, places, 13, 12, 11, 10)
	wantAsk(t, leases(t, 2, 1), 0, 0, ids, places, 13, 12)
	wantAsk(t, leases(t, 8, 1), 0, 0, notIDs(), make([]complex128, len(notIDs())))
	wantAsk(t, leases(t, 2, 1), 0, 0, []int{0, 1, 33, 32}, []complex128{0, 1, 0, 2}, 1, 32)
}

// P17.2: who stands in the list more than once is asked once, and its first place counts, be it nearer or farther.
func TestAskOnce(t *testing.T) {
	wantAsk(t, leases(t, 8, 1), 0, 0, []int{3, 3, 3}, []complex128{1, 0, 2}, 3)
	wantAsk(t, leases(t, 3, 1), 0, 0, []int{3, 5, 3, 5, 7, 3}, []complex128{9, 1, 0, 100, 4, 2}, 5, 7, 3)
	wantAsk(t, leases(t, 2, 1), 0, 0, []int{3, 5, 3, 5, 7, 3}, []complex128{9, 1, 0, 100, 4, 2}, 5, 7)
	many, places := []int{}, []complex128{}
	for k := range 1000 {
		many, places = append(many, 32-k%32), append(places, complex(float64(k), 0))
	}
	wantAsk(t, leases(t, 8, 1), 0, 0, many, places, 32, 31, 30, 29, 28, 27, 26, 25)
}

// P17.2: who was asked is asked no more till wait is over, just then, each by its own time; in between others are.
func TestAskWaits(t *testing.T) {
	for _, wait := range spans() {
		for _, now := range nows() {
			if now+wait > 1<<62 {
				continue
			}
			l := leases(t, 1, wait)
			wantAsk(t, l, now, 0, []int{4}, []complex128{0}, 4)
			wantAsk(t, l, now, 0, []int{4}, []complex128{0})
			wantAsk(t, l, now+wait-1, 0, []int{4}, []complex128{0})
			wantAsk(t, l, now+wait, 0, []int{4}, []complex128{0}, 4)
			wantAsk(t, l, now+wait, 0, []int{4}, []complex128{0})
		}
	}
	ids, places := []int{1, 2, 3, 4}, []complex128{1, 2, 3, 4}
	l := leases(t, 1, 10)
	for k, want := range []int{1, 2, 3, 4} {
		wantAsk(t, l, uint64(k), 0, ids, places, want)
	}
	wantAsk(t, l, 9, 0, ids, places)
	for _, want := range []int{1, 2, 3, 4} {
		wantAsk(t, l, 12+uint64(want)/4, 0, ids, places, want)
	}
	wantAsk(t, l, 13, 0, ids, places)
}

// P17.2: who was asked at a later time than now was asked less than wait ago.
func TestAskEarlier(t *testing.T) {
	l := leases(t, 1, 10)
	wantAsk(t, l, 100, 0, []int{4}, []complex128{0}, 4)
	for _, now := range []uint64{0, 89, 90, 99, 100, 109} {
		wantAsk(t, l, now, 0, []int{4}, []complex128{0})
	}
	wantAsk(t, l, 110, 0, []int{4}, []complex128{0}, 4)
}

// P17.2: who is held is asked no more, however long ago it was, and there are less to be asked; till its time is up.
func TestAskHeld(t *testing.T) {
	ids, places := all()
	for want := 1; want <= 8; want++ {
		for held := range want + 1 {
			l := leases(t, want, 5)
			wantAsk(t, l, 0, 0, ids, places, ids[:want]...)
			for _, id := range ids[:held] {
				wantGot(t, l, id, 100, 0, true)
			}
			wantAsk(t, l, 99, 0, ids, places, ids[held:want]...)
			wantAsk(t, l, 100, 0, ids[:held], places[:held], ids[:held]...)
		}
	}
}

// P17.2: where more are held than are wanted nobody is asked.
func TestAskHeldMore(t *testing.T) {
	ids, places := all()
	l := asked(t, 1, 5, 1, 2, 3, 4)
	for _, id := range []int{1, 2, 3, 4} {
		wantGot(t, l, id, uint64(9+id), 0, true)
	}
	for _, now := range []uint64{0, 9, 10, 11, 12} {
		wantAsk(t, l, now, 0, ids, places)
	}
	wantAsk(t, l, 13, 0, ids, places, 1)
}

// P17.3: held is who was asked, till that time, just, and that is at most 2^62; of who was not asked nothing is held.
func TestGot(t *testing.T) {
	for id := 1; id <= 32; id++ {
		for _, until := range []uint64{1, 2, 1 << 32, 1<<62 - 1, 1 << 62, 1<<62 + 1, 1 << 63, math.MaxUint64} {
			l := asked(t, 1, 5, id)
			for other := 1; other <= 32; other++ {
				if other != id {
					wantGot(t, l, other, until, 0, false)
				}
			}
			wantGot(t, l, id, until, 0, true)
			last := min(until, 1<<62)
			wantHeld(t, l, 0, id)
			wantHeld(t, l, last-1, id)
			for _, now := range append(notNows(), last, last+1) {
				wantHeld(t, l, now)
			}
			wantEnded(t, l, last-1)
			wantEnded(t, l, last, id)
		}
	}
}

// P17.3, P6: nothing is got of who is no node, nor till a time that is not above now.
func TestGotRefuses(t *testing.T) {
	l := asked(t, 8, 5, 1, 2, 32)
	wantGot(t, l, 2, 50, 0, true)
	for _, id := range notIDs() {
		wantGot(t, l, id, 9, 0, false)
		wantGot(t, l, id, math.MaxUint64, 0, false)
	}
	for _, id := range []int{1, 2, 32} {
		for _, now := range append(nows(), notNows()...) {
			wantGot(t, l, id, now, now, false)
			wantGot(t, l, id, 0, now, false)
			wantGot(t, l, id, now/2, now, false)
		}
		wantGot(t, l, id, math.MaxUint64-1, math.MaxUint64, false)
	}
	wantHeld(t, l, 49, 2)
}

// P17.3: who is held may be got again, as it was asked: till a later time, or an earlier one; and who was asked long ago may be.
func TestGotAgain(t *testing.T) {
	l := asked(t, 1, 5, 7)
	for _, until := range []uint64{1 << 40, 1<<40 + 9, 1<<40 + 1, 1 << 62, 1<<40 + 5} {
		wantGot(t, l, 7, until, 1<<40-1, true)
		wantHeld(t, l, until-1, 7)
		wantHeld(t, l, until)
	}
	// Its time is up, but it was not swept: it was asked.
	wantGot(t, l, 7, 1<<41, 1<<40+5, true)
	wantHeld(t, l, 1<<40+5, 7)
}

// P17.3: to be got is not to be asked: who is held no more may be asked by the time that it was asked at, also ahead of a Sweep.
func TestGotIsNotAsked(t *testing.T) {
	l := asked(t, 1, 100, 7)
	wantGot(t, l, 7, 10, 0, true)
	wantAsk(t, l, 9, 0, []int{7}, []complex128{0})
	wantAsk(t, l, 10, 0, []int{7}, []complex128{0})
	wantAsk(t, l, 99, 0, []int{7}, []complex128{0})
	wantAsk(t, l, 100, 0, []int{7}, []complex128{0}, 7)
	wantHeld(t, l, 100)
	wantGot(t, l, 7, 120, 101, true)
	wantHeld(t, l, 119, 7)
}

// P17.3, P6: who is lost was held, or asked; it is neither, just it, and may be asked at once.
func TestLost(t *testing.T) {
	for _, held := range []bool{false, true} {
		l := asked(t, 2, 1000000, 1, 32)
		wantGot(t, l, 1, 50, 0, true)
		if held {
			wantGot(t, l, 32, 60, 0, true)
		}
		for _, id := range append(notIDs(), 2, 31) {
			wantLost(t, l, id, false)
		}
		wantLost(t, l, 32, true)
		wantLost(t, l, 32, false)
		wantHeld(t, l, 0, 1)
		wantEnded(t, l, 49)
		wantGot(t, l, 32, 60, 0, false)
		wantAsk(t, l, 0, 0, []int{1, 32}, []complex128{0, 0}, 32)
		wantGot(t, l, 32, 60, 0, true)
		wantHeld(t, l, 0, 1, 32)
		// Its time is up, but it was not swept: it was asked.
		wantLost(t, l, 1, true)
		wantEnded(t, l, 59)
		wantEnded(t, l, 60, 32)
	}
}

// P17.3, P6: held are those whose time is not up, rising, in whatever order they were got, and at any time of 64 bits.
func TestHeld(t *testing.T) {
	ids, _ := all()
	for seed := range uint64(20) {
		order, _ := draw.New(seed).Mix(ids)
		l := asked(t, 8, 5, order...)
		for _, id := range order {
			wantGot(t, l, id, uint64(100+id), 0, true)
		}
		for _, now := range []uint64{0, 99, 100, 101, 102, 116, 131, 132, 133, 1 << 62, 1 << 63, math.MaxUint64} {
			gone := 0
			if now > 100 {
				gone = int(min(now-100, 32))
			}
			wantHeld(t, l, now, ids[gone:]...)
		}
	}
}

// P17.3: swept are those that were held and are not any more, rising, each once; who was only asked is not, and who is held stays.
func TestLeasesSweep(t *testing.T) {
	made := func() *Leases {
		l := asked(t, 8, 1000000, 32, 9, 1, 5, 7)
		wantGot(t, l, 9, 20, 0, true)
		wantGot(t, l, 32, 11, 0, true)
		wantGot(t, l, 1, 12, 0, true)
		wantGot(t, l, 7, 12, 0, true)
		return l
	}
	for _, c := range []struct {
		now         uint64
		ended, left []int
	}{
		{0, nil, []int{1, 7, 9, 32}}, {10, nil, []int{1, 7, 9, 32}}, {11, []int{32}, []int{1, 7, 9}}, {12, []int{1, 7, 32}, []int{9}}, {19, []int{1, 7, 32}, []int{9}},
		{20, []int{1, 7, 9, 32}, nil}, {1 << 62, []int{1, 7, 9, 32}, nil}, {1 << 63, []int{1, 7, 9, 32}, nil}, {math.MaxUint64, []int{1, 7, 9, 32}, nil},
	} {
		l := made()
		wantEnded(t, l, c.now, c.ended...)
		wantEnded(t, l, c.now)
		wantHeld(t, l, 0, c.left...)
		for _, id := range c.ended {
			wantGot(t, l, id, 99, 0, false)
			wantLost(t, l, id, false)
			wantAsk(t, l, 1, 0, []int{id}, []complex128{0}, id)
		}
		for _, id := range append(c.left, 5) {
			wantGot(t, l, id, 99, 0, true)
		}
	}
}

// P17.3: whose lease ended unswept, and who was asked anew, was held all the same: it is swept, and as if never asked.
func TestLeasesSweepAskedAnew(t *testing.T) {
	l := asked(t, 1, 5, 7)
	wantGot(t, l, 7, 10, 0, true)
	wantAsk(t, l, 10, 0, []int{7}, []complex128{0}, 7)
	wantEnded(t, l, 10, 7)
	wantAsk(t, l, 10, 0, []int{7}, []complex128{0}, 7)
	wantEnded(t, l, 11)
}

// P17.4: who lost its relay asks another one, the next nearest.
func TestAsksAnother(t *testing.T) {
	ids, places := all()
	l := leases(t, 2, 100)
	wantAsk(t, l, 0, 0, ids, places, 1, 2)
	wantGot(t, l, 1, 10, 1, true)
	wantGot(t, l, 2, 30, 1, true)
	wantAsk(t, l, 5, 0, ids, places)
	wantEnded(t, l, 10, 1)
	wantAsk(t, l, 10, 0, ids[1:], places[1:], 3)
	wantLost(t, l, 2, true)
	wantAsk(t, l, 11, 0, ids[2:], places[2:], 4, 5)
	wantGot(t, l, 4, 40, 12, true)
	wantHeld(t, l, 12, 4)
	wantAsk(t, l, 12, 0, ids, places, 1)
}

// P17.4: no script makes a table have more clients than there is room.
func TestNeverMore(t *testing.T) {
	for room := 1; room <= 8; room++ {
		x, s := table(t, room, 10), draw.New(uint64(room))
		for now := range uint64(2000) {
			n, next := s.Below(32)
			s = next
			_, e := x.Grant(1+n, at(1, 1), now/3)
			l := x.Clients()
			if len(l) > room || e == api.ErrFull && len(l) != room {
				t.Fatalf("room for %d, Grant %d: %v", room, e, l)
			}
		}
	}
}

// P3: what is answered is new memory, spare room too: to write into it changes nothing, and no two lists share any.
func TestAnswersAreNew(t *testing.T) {
	x := table(t, 8, 10)
	for id := range 5 {
		wantGrant(t, x, 1+id, at(1, 1), 0, 10, api.OK)
	}
	was, want, m := *x, x.Clients(), x.Clients()
	l := m[:cap(m)]
	for k := range l {
		l[k] = client(99, at(99, 99), 99)
	}
	stays(t, *x, was, "what was answered")
	wantClients(t, x, want...)
	y := asked(t, 8, 10, 1, 2, 3, 4, 5)
	for id := range 5 {
		wantGot(t, y, 1+id, 10, 0, true)
	}
	before, held := *y, y.Held(0)
	for k := range held[:cap(held)] {
		held[:cap(held)][k] = 99
	}
	stays(t, *y, before, "what was answered")
	wantHeld(t, y, 0, 1, 2, 3, 4, 5)
	for _, ids := range [][]int{x.Sweep(10), y.Sweep(10), y.Ask(10, 0, []int{7, 8, 9}, []complex128{1, 2, 3})} {
		was, before := *x, *y
		for k := range ids[:cap(ids)] {
			ids[:cap(ids)][k] = 99
		}
		stays(t, *x, was, "what was answered")
		stays(t, *y, before, "what was answered")
	}
}

// P3: lists that are handed in stay as they are, behind their end too, and are not kept.
func TestListsStay(t *testing.T) {
	ids, places := []int{3, 0, 3, 5, 7, 9}, []complex128{complex(math.Copysign(0, -1), 3), 0, 0, 1, 8, 9}
	wasIDs, wasPlaces := slices.Clone(ids), slices.Clone(places)
	l := leases(t, 8, 10)
	got := l.Ask(0, 0, ids[:4], places[:4])
	if !slices.Equal(got, []int{5, 3}) || !slices.Equal(ids, wasIDs) || !slices.Equal(places, wasPlaces) || !math.Signbit(real(places[0])) {
		t.Errorf("%v of %v at %v", got, ids, places)
	}
	was := *l
	clear(ids)
	clear(places)
	stays(t, *l, was, "what was handed in")
	wantGot(t, l, 3, 9, 0, true)
	wantGot(t, l, 7, 9, 0, false)
}

// shop is a table, done otherwise: a list of all that were granted, and are still clients.
type shop struct {
	room    int
	hold    uint64
	clients []Client
}

// take takes those out of the shop that are so, and answers their IDs, rising.
func (p *shop) take(is func(Client) bool) []int {
	ids, rest := []int{}, []Client{}
	for _, c := range p.clients {
		if is(c) {
			ids = append(ids, c.ID)
		} else {
			rest = append(rest, c)
		}
	}
	p.clients = rest
	slices.Sort(ids)
	return ids
}

// sweep: Sweep.
func (p *shop) sweep(now uint64) []int {
	return p.take(func(c Client) bool { return c.Until <= now })
}

// release: Release.
func (p *shop) release(id int) bool {
	return len(p.take(func(c Client) bool { return c.ID == id })) == 1
}

// grant: Grant.
func (p *shop) grant(id int, a addr.Addr, now uint64) (uint64, api.Errno) {
	if id <= 0 || id >= 33 || a.IP == 0 || a.Port == 0 || now > 1<<62 {
		return 0, api.ErrArg
	}
	p.sweep(now)
	if !p.release(id) && len(p.clients) == p.room {
		return 0, api.ErrFull
	}
	p.clients = append(p.clients, client(id, a, now+p.hold))
	return now + p.hold, api.OK
}

// of: Of.
func (p *shop) of(id int, now uint64) (addr.Addr, bool) {
	for _, c := range p.clients {
		if c.ID == id && c.Until > now {
			return c.Addr, true
		}
	}
	return addr.Addr{}, false
}

// list: Clients.
func (p *shop) list() []Client {
	l := slices.Clone(p.clients)
	slices.SortFunc(l, func(a, b Client) int { return a.ID - b.ID })
	return l
}

// alike: does the table tell what the shop does, about now?
func alike(x *Table, p *shop, now uint64) bool {
	for _, when := range []uint64{0, now, now + 4, now + p.hold, math.MaxUint64} {
		for id := -1; id <= 34; id++ {
			a, ok := x.Of(id, when)
			if b, is := p.of(id, when); a != b || ok != is {
				return false
			}
		}
	}
	return slices.Equal(x.Clients(), p.list())
}

// dice draws numbers.
type dice struct{ s draw.Stream }

// below draws a number below n.
func (g *dice) below(n int) int {
	k, s := g.s.Below(n)
	g.s = s
	return k
}

// oneOf draws one of a list, now and then; else it answers the other one.
func oneOf[T any](g *dice, l []T, other T) T {
	if g.below(30) == 0 {
		return l[g.below(len(l))]
	}
	return other
}

// shopStep does one thing that is drawn to both, and answers whether they did the same.
func shopStep(g *dice, x *Table, p *shop, now uint64, ends map[api.Errno]int) bool {
	id := oneOf(g, notIDs(), 1+g.below(12))
	switch k := g.below(10); {
	case k < 6:
		a := oneOf(g, nones(), at(uint32(1+g.below(3)), uint16(1+g.below(3))))
		when := oneOf(g, notNows(), now+uint64(g.below(5)))
		until, e := x.Grant(id, a, when)
		ends[e]++
		want, is := p.grant(id, a, when)
		return until == want && e == is
	case k < 8:
		return x.Release(id) == p.release(id)
	}
	when := now + uint64(g.below(9))
	return slices.Equal(x.Sweep(when), p.sweep(when))
}

// P17.1, P17.4, P4: whatever is done, a table does as the shop.
func TestAsTheShop(t *testing.T) {
	ends := map[api.Errno]int{}
	for room := 1; room <= 8; room++ {
		for seed := range uint64(4) {
			hold := 1 + 9*seed
			g, x, p := &dice{draw.New(seed*7919 + uint64(room))}, table(t, room, hold), &shop{room: room, hold: hold}
			now := uint64(0)
			for i := range 500 {
				now += uint64(g.below(20) / 12)
				if was := *x; !shopStep(g, x, p, now, ends) || !alike(x, p, now) {
					t.Fatalf("room %d, seed %d, step %d: %v, want %v, was %v", room, seed, i, *x, *p, was)
				}
			}
		}
	}
	for _, e := range []api.Errno{api.OK, api.ErrArg, api.ErrFull} {
		if ends[e] < 300 {
			t.Errorf("errno %d: only %d times", e, ends[e])
		}
	}
}

// deed is that one was asked, at a time, or got, till a time.
type deed struct {
	id   int
	got  bool
	time uint64
}

// diary is leases, done otherwise: it has all that was done, and is read from the end.
type diary struct {
	want  int
	wait  uint64
	deeds []deed
}

// last answers when the last such deed of that one was, and whether there is one.
func (p *diary) last(id int, got bool) (uint64, bool) {
	for k := len(p.deeds) - 1; k >= 0; k-- {
		if p.deeds[k].id == id && p.deeds[k].got == got {
			return p.deeds[k].time, true
		}
	}
	return 0, false
}

// held: Held.
func (p *diary) held(now uint64) []int {
	l := []int{}
	for id := 1; id <= 32; id++ {
		if until, ok := p.last(id, true); ok && until > now {
			l = append(l, id)
		}
	}
	return l
}

// far answers the square of the distance of two places that are right.
func far(a, b complex128) int {
	x, y := int(real(a))-int(real(b)), int(imag(a))-int(imag(b))
	return x*x + y*y
}

// ask: Ask.
func (p *diary) ask(now uint64, me complex128, ids []int, places []complex128) []int {
	if now > 1<<62 || len(ids) != len(places) {
		return nil
	}
	// Where in ids those stand that may be asked.
	may := []int{}
	for k, id := range ids {
		was, ok := p.last(id, false)
		waits := ok && (was > now || now-was < p.wait)
		if 1 <= id && id <= 32 && slices.Index(ids, id) == k && !waits && !slices.Contains(p.held(now), id) {
			may = append(may, k)
		}
	}
	asked := []int{}
	for len(may) > 0 && len(asked)+len(p.held(now)) < p.want {
		best := 0
		for i, k := range may {
			if far(me, places[k]) < far(me, places[may[best]]) {
				best = i
			}
		}
		asked = append(asked, ids[may[best]])
		may = slices.Delete(may, best, best+1)
	}
	for _, id := range asked {
		p.deeds = append(p.deeds, deed{id, false, now})
	}
	return asked
}

// got: Got.
func (p *diary) got(id int, until, now uint64) bool {
	_, asked := p.last(id, false)
	if !asked || until <= now {
		return false
	}
	p.deeds = append(p.deeds, deed{id, true, min(until, 1<<62)})
	return true
}

// lost: Lost.
func (p *diary) lost(id int) bool {
	n := len(p.deeds)
	p.deeds = slices.DeleteFunc(p.deeds, func(d deed) bool { return d.id == id })
	return len(p.deeds) < n
}

// sweep: Sweep.
func (p *diary) sweep(now uint64) []int {
	l := []int{}
	for id := 1; id <= 32; id++ {
		if until, ok := p.last(id, true); ok && until <= now {
			l = append(l, id)
			p.lost(id)
		}
	}
	return l
}

// someAsk asks both for what is drawn: of few places, so that many are as far, and of IDs that stand there more than once.
func someAsk(g *dice, l *Leases, p *diary, now uint64, ends map[int]int) bool {
	spot := func() complex128 { return complex(float64(g.below(5)-2), float64(g.below(5)-2)) }
	ids, places := []int{}, []complex128{}
	for range g.below(12) {
		ids, places = append(ids, oneOf(g, notIDs(), 1+g.below(12))), append(places, spot())
	}
	if g.below(30) == 0 {
		places = append(places, 0)
	}
	when, me := oneOf(g, notNows(), now+uint64(g.below(3))), spot()
	got := l.Ask(when, me, ids, places)
	ends[len(got)]++
	return slices.Equal(got, p.ask(when, me, ids, places))
}

// diaryStep does one thing that is drawn to both, and answers whether they did the same.
func diaryStep(g *dice, l *Leases, p *diary, now uint64, ends map[int]int) bool {
	id := oneOf(g, notIDs(), 1+g.below(12))
	switch k := g.below(20); {
	case k < 8:
		return someAsk(g, l, p, now, ends)
	case k < 14:
		until := oneOf(g, notNows(), now+uint64(g.below(30)))
		when := oneOf(g, notNows(), now+uint64(g.below(3)))
		return l.Got(id, until, when) == p.got(id, until, when)
	case k < 17:
		return l.Lost(id) == p.lost(id)
	}
	when := oneOf(g, notNows(), now+uint64(g.below(3)))
	return slices.Equal(l.Sweep(when), p.sweep(when))
}

// P17.2 to P17.4, P4: whatever is done, leases do as the diary.
func TestAsTheDiary(t *testing.T) {
	ends := map[int]int{}
	for want := 1; want <= 8; want++ {
		for seed := range uint64(4) {
			wait := 1 + 5*seed
			g, l, p := &dice{draw.New(seed*7919 + uint64(want))}, leases(t, want, wait), &diary{want: want, wait: wait}
			now := uint64(0)
			for i := range 500 {
				now += uint64(g.below(5))
				was := *l
				same := diaryStep(g, l, p, now, ends)
				for _, when := range []uint64{0, now, now + 3, now + 30, 1<<62 - 1, 1 << 62, math.MaxUint64} {
					same = same && slices.Equal(l.Held(when), p.held(when))
				}
				if !same {
					t.Fatalf("%d wanted, seed %d, step %d: %v, want %v, was %v", want, seed, i, *l, *p, was)
				}
			}
		}
	}
	for n := range 5 {
		if ends[n] < 50 {
			t.Errorf("%d asked: only %d times", n, ends[n])
		}
	}
}
