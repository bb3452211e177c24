package path

import (
	"cmp"
	"math"
	"slices"
	"testing"

	"scuttlebutt/addr"
	"scuttlebutt/api"
	"scuttlebutt/draw"
)

// notIDs: numbers that no node has.
func notIDs() []int {
	return []int{0, -1, -2, -32, -33, 33, 34, 64, 255, 256, 257, 1 << 32, 1<<32 + 1, math.MaxInt64, math.MinInt64, math.MinInt64 + 1}
}

// notTries: how often no path is tried.
func notTries() []int {
	return []int{0, -1, -8, 9, 10, 16, 32, 256, 257, 264, 1 << 32, 1<<32 + 1, math.MaxInt64, math.MinInt64, math.MinInt64 + 1}
}

// notSpans: for which time nothing waits, and nothing holds.
func notSpans() []uint64 {
	return []uint64{0, 1000001, 1000002, 1 << 20, 1 << 32, 1<<32 + 1, 1 << 62, 1 << 63, 1<<63 + 1, math.MaxUint64}
}

// notNows: times at which nothing is done.
func notNows() []uint64 {
	return []uint64{1<<62 + 1, 1<<62 + 2, 1<<62 + 1000001, 1 << 63, 1<<63 + 1, math.MaxUint64 - 1000000, math.MaxUint64}
}

// nows: times at which one may, rising.
func nows() []uint64 { return []uint64{0, 1, 10, 1 << 32, 1<<62 - 1, 1 << 62} }

// spans: times that may be, from the least to the most.
func spans() []uint64 { return []uint64{1, 2, 7, 999999, 1000000} }

// at: an address.
func at(ip uint32, port uint16) addr.Addr { return addr.Addr{IP: ip, Port: port} }

// nones: addresses that lead nowhere.
func nones() []addr.Addr {
	return []addr.Addr{{}, at(0, 1), at(0, 65535), at(1, 0), at(1<<24, 0), at(math.MaxUint32, 0)}
}

// syn, keep: what is told of these.
func syn(peer int) Step  { return Step{Peer: peer, Kind: 1} }
func keep(peer int) Step { return Step{Peer: peer, Kind: 2} }

// direct: a path that is direct.
func direct(peer int, a addr.Addr, next, until uint64) Path {
	return Path{Peer: peer, State: 3, Addr: a, Next: next, Until: until}
}

// trying: a path that is trying.
func trying(peer, tries int, next uint64) Path {
	return Path{Peer: peer, State: 2, Tries: tries, Next: next}
}

// relayed: a path that is relayed, behind so many tries.
func relayed(peer, tries int, next uint64) Path {
	return Path{Peer: peer, State: 1, Tries: tries, Next: next}
}

// table: a table with no paths.
func table(t *testing.T, tries int, base, keep, hold uint64) *Table {
	t.Helper()
	x, e := New(tries, base, keep, hold)
	if x == nil || e != api.OK {
		t.Fatalf("New(%d, %d, %d, %d): %v, %d", tries, base, keep, hold, x, e)
	}
	return x
}

// stays: behind what is told to have done nothing, now must be what it was.
func stays(t *testing.T, now, was Table, what ...any) {
	t.Helper()
	if now != was {
		t.Fatalf("%v changed something: %v, was %v", what, now, was)
	}
}

// wantWant: Want must answer that; with an error nothing changes.
func wantWant(t *testing.T, x *Table, peer int, now uint64, want api.Errno) {
	t.Helper()
	was := *x
	if e := x.Want(peer, now); e != want {
		t.Errorf("Want(%d, %d): %d, want %d", peer, now, e, want)
	}
	if want != api.OK {
		stays(t, *x, was, "Want", peer, now)
	}
}

// wantOpen: Open must answer that; with an error nothing changes.
func wantOpen(t *testing.T, x *Table, peer int, a addr.Addr, now uint64, want api.Errno) {
	t.Helper()
	was := *x
	if e := x.Open(peer, a, now); e != want {
		t.Errorf("Open(%d, %v, %d): %d, want %d", peer, a, now, e, want)
	}
	if want != api.OK {
		stays(t, *x, was, "Open", peer, a, now)
	}
}

// wantHeard: Heard must answer that; with false nothing changes.
func wantHeard(t *testing.T, x *Table, peer int, a addr.Addr, now uint64, want bool) {
	t.Helper()
	was := *x
	if ok := x.Heard(peer, a, now); ok != want {
		t.Errorf("Heard(%d, %v, %d): %v, want %v", peer, a, now, ok, want)
	}
	if !want {
		stays(t, *x, was, "Heard", peer, a, now)
	}
}

// wantLost: Lost must answer that; with false nothing changes.
func wantLost(t *testing.T, x *Table, peer int, want bool) {
	t.Helper()
	was := *x
	if ok := x.Lost(peer); ok != want {
		t.Errorf("Lost(%d): %v, want %v", peer, ok, want)
	}
	if !want {
		stays(t, *x, was, "Lost", peer)
	}
}

// wantDue: Due must answer these.
func wantDue(t *testing.T, x *Table, now uint64, want ...Step) {
	t.Helper()
	if got := x.Due(now); !slices.Equal(got, want) {
		t.Errorf("Due(%d): %v, want %v", now, got, want)
	}
}

// wantIdle: Due must answer nothing, and change nothing.
func wantIdle(t *testing.T, x *Table, now uint64) {
	t.Helper()
	was := *x
	wantDue(t, x, now)
	stays(t, *x, was, "Due", now)
}

// wantAll: All must be these, twice, and Of of each node too; and asking changes nothing.
func wantAll(t *testing.T, x *Table, want ...Path) {
	t.Helper()
	was := *x
	for range 2 {
		if got := x.All(); !slices.Equal(got, want) {
			t.Errorf("All: %v, want %v", got, want)
		}
	}
	for peer := 1; peer <= 32; peer++ {
		k := slices.IndexFunc(want, func(p Path) bool { return p.Peer == peer })
		p := Path{}
		if k >= 0 {
			p = want[k]
		}
		if got, ok := x.Of(peer); got != p || ok != (k >= 0) {
			t.Errorf("Of(%d): %v, %v, want %v", peer, got, ok, p)
		}
	}
	stays(t, *x, was, "All", "Of")
}

// every: a table that has a path of each state: to 1 one that is direct (with 40 to go on, till 41), to 7 one that is trying (once, with 40 to go on), to 32 one that is relayed (with 40 to go on).
func every(t *testing.T) *Table {
	t.Helper()
	x := table(t, 1, 5, 5, 6)
	wantWant(t, x, 32, 29, api.OK)
	wantDue(t, x, 29, syn(32))
	wantDue(t, x, 34)
	wantOpen(t, x, 1, at(1, 1), 35, api.OK)
	wantWant(t, x, 7, 35, api.OK)
	wantDue(t, x, 35, syn(7))
	wantAll(t, x, direct(1, at(1, 1), 40, 41), trying(7, 1, 40), relayed(32, 1, 40))
	return x
}

// P18.1: the states and the kinds are these numbers.
func TestNumbers(t *testing.T) {
	if None != 0 || Relayed != 1 || Trying != 2 || Direct != 3 || Syn != 1 || Keep != 2 {
		t.Error(None, Relayed, Trying, Direct, Syn, Keep)
	}
}

// P18.1, P18.2: of each that may be a new table has no paths, whatever another one has; and nothing is due.
func TestNew(t *testing.T) {
	other := every(t)
	was := *other
	for tries := 1; tries <= 8; tries++ {
		for _, span := range spans() {
			for _, x := range []*Table{table(t, tries, span, 1, 1), table(t, tries, 1, span, 1), table(t, tries, 1, 1, span), table(t, tries, span, span, span)} {
				wantAll(t, x)
				for _, now := range append(nows(), notNows()...) {
					wantIdle(t, x, now)
				}
				for peer := 1; peer <= 32; peer++ {
					wantLost(t, x, peer, false)
					wantHeard(t, x, peer, at(1, 1), 0, false)
					wantHeard(t, x, peer, addr.Addr{}, 0, false)
				}
			}
		}
	}
	stays(t, *other, was, "New")
}

// P18.1, P2, P6: of numbers that may not be there is no table, and ErrArg; each of them alone is enough.
func TestNewRefuses(t *testing.T) {
	refused := func(tries int, base, keep, hold uint64) {
		t.Helper()
		if x, e := New(tries, base, keep, hold); x != nil || e != api.ErrArg {
			t.Errorf("New(%d, %d, %d, %d): %v, %d", tries, base, keep, hold, x, e)
		}
	}
	for _, tries := range notTries() {
		for _, span := range append(spans(), notSpans()...) {
			refused(tries, span, span, span)
		}
	}
	for tries := 1; tries <= 8; tries++ {
		for _, not := range notSpans() {
			for _, span := range append(spans(), not) {
				refused(tries, not, span, span)
				refused(tries, span, not, span)
				refused(tries, span, span, not)
			}
		}
	}
}

// P18.1: who is wanted is tried from now on, each that may be, up to the edges; nothing else changes.
func TestWant(t *testing.T) {
	for peer := 1; peer <= 32; peer++ {
		for _, now := range nows() {
			x := table(t, 2, 3, 4, 10)
			wantWant(t, x, peer, now, api.OK)
			wantAll(t, x, trying(peer, 0, now))
		}
	}
	x := every(t)
	wantWant(t, x, 8, 3, api.OK)
	wantAll(t, x, direct(1, at(1, 1), 40, 41), trying(7, 1, 40), trying(8, 0, 3), relayed(32, 1, 40))
}

// P18.1: to whom there is a path, of whatever state, is not wanted anew, at whatever time; till it is lost.
func TestWantOld(t *testing.T) {
	for _, now := range append(nows(), 40, 50) {
		x := every(t)
		for _, peer := range []int{1, 7, 32} {
			wantWant(t, x, peer, now, api.ErrOld)
		}
		for _, peer := range []int{1, 7, 32} {
			wantLost(t, x, peer, true)
			wantWant(t, x, peer, now, api.OK)
			wantWant(t, x, peer, now, api.ErrOld)
		}
		wantAll(t, x, trying(1, 0, now), trying(7, 0, now), trying(32, 0, now))
	}
}

// P18.1, P2, P6: Want of who is no node, and at a later time, is ErrArg, also where there is a path.
func TestWantRefuses(t *testing.T) {
	x := every(t)
	for _, peer := range notIDs() {
		for _, now := range append(nows(), notNows()...) {
			wantWant(t, x, peer, now, api.ErrArg)
		}
	}
	for _, now := range notNows() {
		for _, peer := range []int{1, 2, 7, 31, 32} {
			wantWant(t, x, peer, now, api.ErrArg)
		}
	}
}

// P18.1: an open path is direct, at that address; keep tells when it goes on, hold how long it holds; up to the edges.
func TestOpen(t *testing.T) {
	for peer := 1; peer <= 32; peer++ {
		for _, now := range nows() {
			for _, span := range spans() {
				x := table(t, 1, 1, span, 3)
				wantOpen(t, x, peer, at(uint32(peer), 1), now, api.OK)
				wantAll(t, x, direct(peer, at(uint32(peer), 1), now+span, now+3))
				x = table(t, 1, 1, 3, span)
				wantOpen(t, x, peer, at(1, uint16(peer)), now, api.OK)
				wantAll(t, x, direct(peer, at(1, uint16(peer)), now+3, now+span))
			}
		}
	}
}

// P18.1: whatever the path was, it is direct anew, with no tries, at the new address, also at an earlier time; the others stay.
func TestOpenAgain(t *testing.T) {
	for _, now := range append(nows(), 40, 50) {
		x := every(t)
		b := at(9, 9)
		one, seven, last := direct(1, at(1, 1), 40, 41), trying(7, 1, 40), relayed(32, 1, 40)
		wantOpen(t, x, 7, b, now, api.OK)
		wantAll(t, x, one, direct(7, b, now+5, now+6), last)
		wantOpen(t, x, 32, b, now, api.OK)
		wantAll(t, x, one, direct(7, b, now+5, now+6), direct(32, b, now+5, now+6))
		wantOpen(t, x, 1, b, now, api.OK)
		wantAll(t, x, direct(1, b, now+5, now+6), direct(7, b, now+5, now+6), direct(32, b, now+5, now+6))
		y := every(t)
		wantOpen(t, y, 1, b, now, api.OK)
		wantAll(t, y, direct(1, b, now+5, now+6), seven, last)
	}
}

// P18.1, P2, P6: Open of who is no node, of an address that leads nowhere, and at a later time is ErrArg.
func TestOpenRefuses(t *testing.T) {
	x := every(t)
	for _, now := range append(nows(), notNows()...) {
		for _, peer := range notIDs() {
			wantOpen(t, x, peer, at(9, 9), now, api.ErrArg)
		}
		for _, peer := range []int{0, 1, 2, 7, 32} {
			for _, a := range nones() {
				wantOpen(t, x, peer, a, now, api.ErrArg)
			}
		}
	}
	for _, now := range notNows() {
		for _, peer := range []int{1, 2, 7, 31, 32} {
			wantOpen(t, x, peer, at(9, 9), now, api.ErrArg)
		}
	}
}

// P18.1: who is heard holds from now, by hold, each peer up to the edges, also at an earlier time; nothing else changes.
func TestHeard(t *testing.T) {
	for peer := 1; peer <= 32; peer++ {
		for _, was := range nows() {
			for _, now := range nows() {
				for _, hold := range spans() {
					x := table(t, 1, 1, 5, hold)
					wantOpen(t, x, peer, at(3, 4), was, api.OK)
					wantHeard(t, x, peer, at(3, 4), now, true)
					wantAll(t, x, direct(peer, at(3, 4), was+5, now+hold))
				}
			}
		}
	}
	x := every(t)
	wantHeard(t, x, 1, at(1, 1), 50, true)
	wantAll(t, x, direct(1, at(1, 1), 40, 56), trying(7, 1, 40), relayed(32, 1, 40))
}

// P18.1: a path is direct till Due asks for it: it may be heard though its time is up, and holds anew.
func TestHeardLate(t *testing.T) {
	x := table(t, 2, 3, 4, 5)
	wantOpen(t, x, 2, at(1, 1), 0, api.OK)
	wantHeard(t, x, 2, at(1, 1), 100, true)
	wantDue(t, x, 104, keep(2))
	wantAll(t, x, direct(2, at(1, 1), 108, 105))
	wantDue(t, x, 108, syn(2))
	wantHeard(t, x, 2, at(1, 1), 108, false)
}

// P18.1, P2, P6: nothing is heard of who is no node, at a later time, at another address, and of a path that is not direct.
func TestHeardRefuses(t *testing.T) {
	x := every(t)
	others := append(nones(), at(1, 2), at(2, 1), at(257, 1), at(1, 257))
	for _, now := range append(nows(), notNows()...) {
		for _, a := range append(others, at(1, 1)) {
			for _, peer := range append(notIDs(), 2, 7, 31, 32) {
				wantHeard(t, x, peer, a, now, false)
			}
		}
		for _, a := range others {
			wantHeard(t, x, 1, a, now, false)
		}
	}
	for _, now := range notNows() {
		wantHeard(t, x, 1, at(1, 1), now, false)
	}
	wantOpen(t, x, 1, at(2, 2), 50, api.OK)
	wantHeard(t, x, 1, at(1, 1), 51, false)
	wantHeard(t, x, 1, at(2, 2), 51, true)
}

// P18.1, P6: who is lost had a path, of whatever state; there is none any more, just to that one, and nothing of it is due.
func TestLost(t *testing.T) {
	x := every(t)
	for _, peer := range append(notIDs(), 2, 6, 8, 31) {
		wantLost(t, x, peer, false)
	}
	left := []Path{direct(1, at(1, 1), 40, 41), trying(7, 1, 40), relayed(32, 1, 40)}
	for len(left) > 0 {
		peer := left[len(left)/2].Peer
		left = slices.Delete(left, len(left)/2, len(left)/2+1)
		wantLost(t, x, peer, true)
		wantLost(t, x, peer, false)
		wantHeard(t, x, peer, at(1, 1), 40, false)
		wantAll(t, x, left...)
	}
	wantIdle(t, x, 1<<62)
}

// P18.1, P2, P6: of who is no node, and to whom there is none, there is no path.
func TestOf(t *testing.T) {
	x := every(t)
	was := *x
	for _, peer := range append(notIDs(), 2, 6, 8, 31) {
		if p, ok := x.Of(peer); ok || p != (Path{}) {
			t.Errorf("Of(%d): %v, %v", peer, p, ok)
		}
	}
	stays(t, *x, was, "Of")
}

// P18.1, P18.2: paths and what is due are told by Peer, in whatever order they came.
func TestByPeer(t *testing.T) {
	for seed := range uint64(20) {
		ids := make([]int, 32)
		for k := range ids {
			ids[k] = k + 1
		}
		order, _ := draw.New(seed).Mix(ids)
		x, want, due := table(t, 2, 3, 4, 10), []Path{}, []Step{}
		for k, peer := range order {
			now := uint64(k)
			if k%2 == 0 {
				wantWant(t, x, peer, now, api.OK)
				want, due = append(want, trying(peer, 0, now)), append(due, syn(peer))
			} else {
				wantOpen(t, x, peer, at(1, 1), now+30, api.OK)
				want, due = append(want, direct(peer, at(1, 1), now+34, now+40)), append(due, keep(peer))
			}
		}
		slices.SortFunc(want, func(a, b Path) int { return a.Peer - b.Peer })
		slices.SortFunc(due, func(a, b Step) int { return a.Peer - b.Peer })
		wantAll(t, x, want...)
		for _, p := range want {
			if p.State == Direct {
				wantHeard(t, x, p.Peer, p.Addr, 70, true)
			}
		}
		wantDue(t, x, 70, due...)
		wantIdle(t, x, 70)
	}
}

// P18.2, P6: at a later time nothing is due, and nothing changes.
func TestDueLater(t *testing.T) {
	x := every(t)
	for _, now := range notNows() {
		wantIdle(t, x, now)
	}
	wantDue(t, x, 1<<62, syn(1), syn(32))
	wantAll(t, x, trying(1, 1, 1<<62+5), relayed(7, 1, 1<<62+6), trying(32, 1, 1<<62+5))
	wantIdle(t, x, 1<<62)
	for _, now := range notNows() {
		wantIdle(t, x, now)
	}
}

// P18.2: what is due is due from its Next on, just.
func TestDueFromNext(t *testing.T) {
	for _, now := range []uint64{0, 29, 38, 39} {
		wantIdle(t, every(t), now)
	}
	x := every(t)
	wantDue(t, x, 40, keep(1), syn(32))
	wantAll(t, x, direct(1, at(1, 1), 45, 41), relayed(7, 1, 46), trying(32, 1, 45))
	x = every(t)
	wantDue(t, x, 41, syn(1), syn(32))
	wantAll(t, x, trying(1, 1, 46), relayed(7, 1, 47), trying(32, 1, 46))
}

// P18.2: a direct path is kept as long as it holds, each time keep later, also where Due came late; then it is tried, just when Until is over.
func TestDueKeeps(t *testing.T) {
	x := table(t, 2, 3, 4, 10)
	wantOpen(t, x, 5, at(1, 1), 0, api.OK)
	wantIdle(t, x, 3)
	wantDue(t, x, 4, keep(5))
	wantIdle(t, x, 7)
	wantDue(t, x, 9, keep(5))
	wantAll(t, x, direct(5, at(1, 1), 13, 10))
	// Its time is up, but it is not looked at till 13.
	wantIdle(t, x, 12)
	wantHeard(t, x, 5, at(1, 1), 4, true)
	wantDue(t, x, 13, keep(5))
	wantAll(t, x, direct(5, at(1, 1), 17, 14))
	wantDue(t, x, 17, syn(5))
	wantAll(t, x, trying(5, 1, 20))
	for _, c := range []struct {
		now  uint64
		kind Step
	}{{9, keep(5)}, {10, syn(5)}, {11, syn(5)}, {1 << 62, syn(5)}} {
		x := table(t, 2, 3, 4, 10)
		wantOpen(t, x, 5, at(1, 1), 0, api.OK)
		wantDue(t, x, c.now, c.kind)
	}
}

// P18.2: where a path holds no longer than it is kept it is never kept.
func TestDueHoldsNoLonger(t *testing.T) {
	for _, hold := range []uint64{1, 4, 5} {
		x := table(t, 8, 7, 5, hold)
		wantOpen(t, x, 5, at(1, 1), 100, api.OK)
		wantIdle(t, x, 104)
		wantDue(t, x, 105, syn(5))
		wantAll(t, x, trying(5, 1, 112))
	}
	x := table(t, 8, 7, 5, 6)
	wantOpen(t, x, 5, at(1, 1), 100, api.OK)
	wantDue(t, x, 105, keep(5))
}

// P18.2, P18.3: a path is tried so often as it may be, each time waiting twice as long, then it is relayed for hold, and tried anew, as often: of each number of tries, base and hold, up to the edges.
func TestDueTries(t *testing.T) {
	for tries := 1; tries <= 8; tries++ {
		for _, base := range spans() {
			for _, hold := range spans() {
				x := table(t, tries, base, 1, hold)
				wantWant(t, x, 9, 5, api.OK)
				now := uint64(5)
				for range 3 {
					wait := base
					for k := range tries {
						wantIdle(t, x, now-1)
						wantDue(t, x, now, syn(9))
						now += wait
						wantAll(t, x, trying(9, k+1, now))
						wait *= 2
					}
					wantIdle(t, x, now-1)
					wantDue(t, x, now)
					now += hold
					wantAll(t, x, relayed(9, tries, now))
				}
			}
		}
	}
}

// P18.2: how long is waited is counted from now, and not from when it was due; near the latest time nothing wraps.
func TestDueLate(t *testing.T) {
	x := table(t, 3, 10, 1, 100)
	wantWant(t, x, 9, 0, api.OK)
	for _, c := range []struct {
		now  uint64
		due  []Step
		path Path
	}{
		{3, []Step{syn(9)}, trying(9, 1, 13)}, {20, []Step{syn(9)}, trying(9, 2, 40)}, {1000, []Step{syn(9)}, trying(9, 3, 1040)},
		{5000, nil, relayed(9, 3, 5100)}, {5500, []Step{syn(9)}, trying(9, 1, 5510)}, {6000, []Step{syn(9)}, trying(9, 2, 6020)},
	} {
		wantDue(t, x, c.now, c.due...)
		wantAll(t, x, c.path)
		wantIdle(t, x, c.now)
	}
	last := table(t, 8, 1000000, 1000000, 1000000)
	wantWant(t, last, 32, 1<<62, api.OK)
	wantDue(t, last, 1<<62, syn(32))
	wantAll(t, last, trying(32, 1, 1<<62+1000000))
	late := table(t, 8, 1000000, 1, 1)
	wantWant(t, late, 32, 0, api.OK)
	now := uint64(0)
	for k := range 7 {
		wantDue(t, late, now, syn(32))
		now += 1000000 << k
	}
	wantDue(t, late, 1<<62, syn(32))
	wantAll(t, late, trying(32, 8, 1<<62+128000000))
}

// P18.2: what is told, and what is made of it, is of each path by itself: who is opened in between is not tried on.
func TestDueOpened(t *testing.T) {
	x := table(t, 3, 2, 5, 20)
	wantWant(t, x, 3, 0, api.OK)
	wantWant(t, x, 4, 0, api.OK)
	wantDue(t, x, 0, syn(3), syn(4))
	wantOpen(t, x, 3, at(8, 8), 1, api.OK)
	wantDue(t, x, 2, syn(4))
	wantDue(t, x, 6, keep(3), syn(4))
	wantAll(t, x, direct(3, at(8, 8), 11, 21), trying(4, 3, 14))
	wantDue(t, x, 14, keep(3))
	wantAll(t, x, direct(3, at(8, 8), 19, 21), relayed(4, 3, 34))
	wantOpen(t, x, 4, at(7, 7), 15, api.OK)
	wantDue(t, x, 34, syn(3), keep(4))
	wantAll(t, x, trying(3, 1, 36), direct(4, at(7, 7), 39, 35))
}

// P3: what is answered is new memory, spare room too: to write into it changes nothing, and no two lists share any.
func TestAnswersAreNew(t *testing.T) {
	x := table(t, 8, 1, 1, 1)
	for peer := 1; peer <= 5; peer++ {
		wantWant(t, x, peer, 0, api.OK)
	}
	all, due := x.All(), x.Due(0)
	wasAll, wasDue, was := slices.Clone(all), slices.Clone(due), *x
	for range 2 {
		l := x.All()
		for k := range l[:cap(l)] {
			l[:cap(l)][k] = direct(99, at(99, 99), 99, 99)
		}
	}
	stays(t, *x, was, "what was answered")
	l := x.Due(1)
	was = *x
	for k := range l[:cap(l)] {
		l[:cap(l)][k] = syn(99)
	}
	stays(t, *x, was, "what was answered")
	if !slices.Equal(all, wasAll) || !slices.Equal(due, wasDue) {
		t.Errorf("%v and %v, were %v and %v", all, due, wasAll, wasDue)
	}
	wantAll(t, x, trying(1, 2, 3), trying(2, 2, 3), trying(3, 2, 3), trying(4, 2, 3), trying(5, 2, 3))
}

// book is a table, done otherwise: a list of paths in the order in which they came, and of each what it is to do is looked up by what it is.
type book struct {
	tries            int
	base, keep, hold uint64
	paths            []Path
}

// find: where that one stands, or below 0.
func (b *book) find(peer int) int {
	return slices.IndexFunc(b.paths, func(p Path) bool { return p.Peer == peer })
}

// may: may one speak of that one at now?
func may(peer int, now uint64) bool { return peer > 0 && peer < 33 && now <= 1<<62 }

// want: Want.
func (b *book) want(peer int, now uint64) api.Errno {
	if !may(peer, now) {
		return api.ErrArg
	}
	if b.find(peer) >= 0 {
		return api.ErrOld
	}
	b.paths = append(b.paths, trying(peer, 0, now))
	return api.OK
}

// open: Open.
func (b *book) open(peer int, a addr.Addr, now uint64) api.Errno {
	if !may(peer, now) || a.IP == 0 || a.Port == 0 {
		return api.ErrArg
	}
	b.lost(peer)
	b.paths = append(b.paths, direct(peer, a, now+b.keep, now+b.hold))
	return api.OK
}

// heard: Heard.
func (b *book) heard(peer int, a addr.Addr, now uint64) bool {
	k := b.find(peer)
	if k < 0 || !may(peer, now) {
		return false
	}
	p := b.paths[k]
	if p != direct(peer, a, p.Next, p.Until) {
		return false
	}
	b.paths[k].Until = now + b.hold
	return true
}

// lost: Lost.
func (b *book) lost(peer int) bool {
	k := b.find(peer)
	if k < 0 {
		return false
	}
	b.paths = slices.Delete(b.paths, k, k+1)
	return true
}

// behind: what is told of p at now, and what it is behind it.
func (b *book) behind(p Path, now uint64) (int, Path) {
	if p.State == 3 && now < p.Until {
		return 2, direct(p.Peer, p.Addr, now+b.keep, p.Until)
	}
	if p.State == 2 && p.Tries == b.tries {
		return 0, relayed(p.Peer, p.Tries, now+b.hold)
	}
	tries := 1
	if p.State == 2 {
		tries = p.Tries + 1
	}
	wait := b.base
	for range tries - 1 {
		wait += wait
	}
	return 1, trying(p.Peer, tries, now+wait)
}

// due: Due.
func (b *book) due(now uint64) []Step {
	var l []Step
	for k, p := range b.paths {
		if now > 1<<62 || now < p.Next {
			continue
		}
		kind, q := b.behind(p, now)
		b.paths[k] = q
		if kind != 0 {
			l = append(l, Step{Peer: p.Peer, Kind: kind})
		}
	}
	slices.SortFunc(l, func(x, y Step) int { return cmp.Compare(x.Peer, y.Peer) })
	return l
}

// all: All.
func (b *book) all() []Path {
	l := slices.Clone(b.paths)
	slices.SortFunc(l, func(x, y Path) int { return cmp.Compare(x.Peer, y.Peer) })
	return l
}

// dice draws one after another of a stream.
type dice struct{ s draw.Stream }

// throw: a number below n.
func (d *dice) throw(n int) int {
	k, s := d.s.Below(n)
	d.s = s
	return k
}

// P18.1, P18.2, P18.3: long scripts that are drawn, with all calls mixed and times that go on and back, held against a table done otherwise; and of no path is a Syn told more often than it may be tried, before it is relayed, or opened, or lost.
func TestDrawnScripts(t *testing.T) {
	for seed := range uint64(80) {
		d := &dice{draw.New(seed)}
		tries, base, keep, hold := 1+d.throw(8), uint64(1+d.throw(5)), uint64(1+d.throw(9)), uint64(1+d.throw(20))
		x, b := table(t, tries, base, keep, hold), &book{tries: tries, base: base, keep: keep, hold: hold}
		begin := []uint64{3, 1 << 40, 1<<62 - 900}[d.throw(3)]
		now := begin
		var syns [34]int
		for step := range 900 {
			now += uint64(d.throw(3))
			when := now
			if d.throw(20) == 0 {
				when -= uint64(d.throw(3))
			}
			peer, a := d.throw(9), at(uint32(d.throw(8)), 1)
			if d.throw(9) == 0 {
				peer = d.throw(34)
			}
			same := true
			switch d.throw(9) {
			case 0:
				same = x.Want(peer, when) == b.want(peer, when)
			case 1:
				e := b.open(peer, a, when)
				same = x.Open(peer, a, when) == e
				if e == api.OK {
					syns[peer] = 0
				}
			case 2:
				same = x.Heard(peer, a, when) == b.heard(peer, a, when)
			case 3:
				if k := b.find(peer); k >= 0 {
					a = b.paths[k].Addr
				}
				same = x.Heard(peer, a, when) == b.heard(peer, a, when)
			case 4:
				if d.throw(4) == 0 {
					same = x.Lost(peer) == b.lost(peer)
					syns[peer] = 0
				}
			default:
				was := b.all()
				got := x.Due(when)
				same = slices.Equal(got, b.due(when))
				for _, s := range got {
					if s.Kind == Keep || slices.ContainsFunc(was, func(p Path) bool { return p.Peer == s.Peer && p.State != Trying }) {
						syns[s.Peer] = 0
					}
					if s.Kind == Syn {
						syns[s.Peer]++
					}
					if syns[s.Peer] > tries {
						t.Fatalf("seed %d: %d was tried %d times, may be %d", seed, s.Peer, syns[s.Peer], tries)
					}
				}
			}
			if !same || !slices.Equal(x.All(), b.all()) {
				t.Fatalf("seed %d, step %d, at %d: %v, want %v", seed, step, when, x.All(), b.all())
			}
		}
	}
}

// P18.3: of a peer that never answers the share of what is sent is bounded: between two times that it is relayed there are just tries of Syn.
func TestNeverMore(t *testing.T) {
	for tries := 1; tries <= 8; tries++ {
		x := table(t, tries, 1, 1, 3)
		wantWant(t, x, 6, 0, api.OK)
		syns, rounds := 0, 0
		for now := range uint64(5000) {
			syns += len(x.Due(now))
			p, _ := x.Of(6)
			if p.Tries > tries || syns > tries || p.State == Relayed && p.Tries != tries {
				t.Fatalf("%d: tried %d times, may be %d: %v", now, syns, tries, p)
			}
			if p.State == Relayed && p.Next == now+3 {
				if syns != tries {
					t.Fatalf("%d: relayed behind %d tries, not %d", now, syns, tries)
				}
				syns, rounds = 0, rounds+1
			}
		}
		if rounds < 10 {
			t.Errorf("tries %d: relayed %d times alone", tries, rounds)
		}
	}
}

// P4: what is done to one table is of that table alone, and the same calls make the same of another one.
func TestTablesApart(t *testing.T) {
	x, y := every(t), every(t)
	was := *y
	wantDue(t, x, 41, syn(1), syn(32))
	wantLost(t, x, 7, true)
	stays(t, *y, was, "another table")
	wantDue(t, y, 41, syn(1), syn(32))
	wantLost(t, y, 7, true)
	stays(t, *y, *x, "the same calls")
}
