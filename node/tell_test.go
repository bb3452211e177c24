package node

import (
	"math"
	"slices"
	"testing"

	"scuttlebutt/addr"
	"scuttlebutt/api"
	"scuttlebutt/doubt"
	"scuttlebutt/path"
	"scuttlebutt/queue"
	"scuttlebutt/record"
	"scuttlebutt/wire"
)

// item: that r is told on, so often still.
func item(r record.Record, times int) queue.Item { return queue.Item{Record: r, Left: times} }

// ping: what a Ping to node asks, of that Seq, and which news it tells.
func ping(node int, seq uint32, l ...record.Record) wire.Msg {
	return wire.Msg{Kind: wire.Ping, Seq: seq, Node: node, News: l}
}

// drained: nothing is told on by n any more.
func drained(n *Node) {
	for len(n.Queue()) > 0 {
		n.queue.Some(8)
	}
}

// P19.2: raw to a direct path's Addr; else raw to where a client is; else in a Relay to where its record says; else to nobody.
func TestRouted(t *testing.T) {
	n := made(t, conf(1, 1))
	// Each is asked to ping node 7, by node 2, of which nothing is known: so nobody else is told.
	ask := func(now uint64, what string, want ...Send) {
		t.Helper()
		wantSends(t, what, n.Take(now, home(2), by(t, 2, wire.Msg{Kind: wire.PingReq, Seq: 50, Node: 7, Addr: home(7)})), want...)
	}
	ask(0, "to nobody")
	n.paths.Want(7, 0)
	ask(0, "where a path is tried")
	tell(t, n, 0, 2, moved(alive(7, 0), at(70, 7)))
	ask(0, "where the view knows it", relayed(t, 1, at(70, 7), 7, ping(7, 3, moved(alive(7, 0), at(70, 7)))))
	drained(n)
	n.clients.Grant(7, at(71, 7), 0)
	ask(19, "to a client", raw(t, 1, at(71, 7), ping(7, 4)))
	ask(20, "to one that is a client no more", relayed(t, 1, at(70, 7), 7, ping(7, 5)))
	ask(19, "to a client", raw(t, 1, at(71, 7), ping(7, 6)))
	n.paths.Open(7, at(72, 7), 0)
	ask(19, "by a path", raw(t, 1, at(72, 7), ping(7, 7)))
	ask(30, "by a path that holds no more, but isn't asked yet", raw(t, 1, at(72, 7), ping(7, 8)))
	n.paths.Due(30)
	ask(19, "to a client, as the path is tried", raw(t, 1, at(71, 7), ping(7, 9)))
	n.clients.Release(7)
	ask(30, "where the view knows it", relayed(t, 1, at(70, 7), 7, ping(7, 10)))
	n.paths.Due(35)
	n.paths.Due(45)
	n.paths.Due(65)
	if p, _ := n.paths.Of(7); p.State != path.Relayed {
		t.Fatalf("not relayed: %v", p)
	}
	ask(65, "where the path is relayed", relayed(t, 1, at(70, 7), 7, ping(7, 11)))
	tell(t, n, 65, 2, moved(dead(7, 0), at(70, 7)))
	drained(n)
	ask(65, "also of who is dead", relayed(t, 1, at(70, 7), 7, ping(7, 12)))
	if n.Bad() != 0 {
		t.Error("Bad:", n.Bad())
	}
}

// P19.2: to an address that is none nothing is sent.
func TestToNone(t *testing.T) {
	n := made(t, conf(1, 1, 2))
	for _, a := range nones() {
		wantSends(t, "Sync to nowhere", n.Take(0, a, by(t, 5, wire.Msg{Kind: wire.Join, Place: 1})))
		wantSends(t, "Leased to nowhere", n.Take(0, a, by(t, 5, wire.Msg{Kind: wire.Lease, Flag: true})))
		wantSends(t, "Ack to nowhere", n.Take(0, a, by(t, 5, ping(1, 1))))
		wantSends(t, "SynAck to nowhere", n.Take(0, a, by(t, 5, wire.Msg{Kind: wire.Syn, Node: 1})))
		// The Seen, and the Triangle to node 2, would tell of that address: there is no such datagram.
		wantSends(t, "Seen to nowhere", n.Take(0, a, by(t, 5, wire.Msg{Kind: wire.Triangle, Addr: home(5)})))
	}
	wantClients(t, n)
	wantPaths(t, n)
	if n.Bad() != 0 {
		t.Error("Bad:", n.Bad())
	}
}

// P19.2: what has no Put is sent to nobody, in no Relay either.
func TestNoPut(t *testing.T) {
	n := plain(t, 1)
	x, _ := n.begin(0)
	wrong := wire.Msg{Kind: wire.Meet, Node: 1}
	x.raw(home(1), wrong)
	x.routed(1, wrong)
	n.clients.Grant(2, home(2), 0)
	x.routed(2, wrong)
	x.relayed(1, wrong)
	n.paths.Open(1, home(1), 0)
	x.routed(1, wrong)
	wantSends(t, "what has no Put", x.out)
	if x.routed(9, ping(1, 0)) || x.relayed(9, ping(1, 0)) || len(x.out) != 0 {
		t.Error("it told itself")
	}
	if x.routed(20, ping(1, 0)) || x.relayed(20, ping(1, 0)) || len(x.out) != 0 {
		t.Error("it told one that nobody knows")
	}
}

// P19.2: the news are taken also where nobody is told.
func TestNewsToNobody(t *testing.T) {
	n := plain(t, 1)
	tell(t, n, 0, 1, alive(2, 0))
	wantQueue(t, n, item(alive(2, 0), 6))
	wantSends(t, "to nobody", take(t, n, 0, 20, wire.Msg{Kind: wire.PingReq, Seq: 50, Node: 7, Addr: home(7)}))
	wantQueue(t, n, item(alive(2, 0), 5))
	wantSends(t, "Ack to nowhere", n.Take(0, addr.Addr{}, by(t, 20, ping(9, 1))))
	wantQueue(t, n, item(alive(2, 0), 4))
}

// P19.2: no more than 8 go along, those that were told least.
func TestMostNews(t *testing.T) {
	n := plain(t, 1)
	tell(t, n, 0, 1, alive(11, 0), alive(12, 0), alive(13, 0), alive(14, 0), alive(15, 0), alive(16, 0), alive(17, 0))
	tell(t, n, 0, 1, alive(10, 0), alive(18, 0), alive(19, 0))
	// 11 is told 6 times, as 3 are known by then; 12 to 15 9 times, the others 12 times.
	first := news(alive(10, 0), alive(16, 0), alive(17, 0), alive(18, 0), alive(19, 0), alive(12, 0), alive(13, 0), alive(14, 0))
	wantSends(t, "Ping", take(t, n, 0, 1, ping(9, 1)), toHome(t, 9, 1, wire.Msg{Kind: wire.Ack, Seq: 1, Place: site(9), News: first}))
	wantQueue(t, n, item(alive(10, 0), 11), item(alive(16, 0), 11), item(alive(17, 0), 11), item(alive(18, 0), 11), item(alive(19, 0), 11), item(alive(15, 0), 9), item(alive(12, 0), 8), item(alive(13, 0), 8), item(alive(14, 0), 8), item(alive(11, 0), 6))
}

// P19.2: what turns something is told on, by how many members there are, the dead too.
func TestLearnQueue(t *testing.T) {
	n := plain(t, 1)
	tell(t, n, 0, 1, alive(2, 0))
	wantQueue(t, n, item(alive(2, 0), 6))
	tell(t, n, 0, 1, dead(3, 0))
	wantQueue(t, n, item(dead(3, 0), 9), item(alive(2, 0), 6))
	tell(t, n, 0, 1, dead(3, 0), alive(3, 0), suspect(3, 0), alive(2, 0))
	wantQueue(t, n, item(dead(3, 0), 9), item(alive(2, 0), 6))
	n.queue.Some(8)
	tell(t, n, 0, 1, moved(alive(2, 0), at(math.MaxUint32, 1)))
	wantQueue(t, n, item(moved(alive(2, 0), at(math.MaxUint32, 1)), 9), item(dead(3, 0), 8))
	tell(t, n, 0, 1, left(1, 0), alive(3, 1))
	wantQueue(t, n, item(left(1, 0), 9), item(moved(alive(2, 0), at(math.MaxUint32, 1)), 9), item(alive(3, 1), 9))
}

// P19.2: a record that is not right is nothing.
func TestLearnWrong(t *testing.T) {
	n := plain(t, 1)
	tell(t, n, 0, 1, suspect(2, 4), suspect(20, 4))
	was := stateOf(n)
	x, _ := n.begin(5)
	for _, id := range notIDs() {
		x.learn(alive(id, 5), 1)
		x.learn(record.Record{ID: id, State: 1, Addr: home(1)}, 1)
	}
	for _, state := range []int{-1, 4, math.MaxInt64, math.MinInt64} {
		x.learn(record.Record{ID: 2, State: state, Inc: 7, Addr: home(2)}, 1)
		x.learn(record.Record{ID: 9, State: state, Inc: 7, Addr: home(9)}, 1)
	}
	for _, a := range nones() {
		x.learn(moved(suspect(2, 4), a), 3)
		x.learn(moved(alive(2, 5), a), 3)
		x.learn(moved(dead(9, 5), a), 3)
	}
	stays(t, n, was, "a wrong record")
	wantSends(t, "a wrong record", x.out)
}

// P19.2: who is suspected, of which Inc, since when; and who confirms it.
func TestLearnSuspect(t *testing.T) {
	n := plain(t, 1)
	want := func(what string, l ...doubt.Item) {
		t.Helper()
		got := n.doubt.Items()
		same := slices.EqualFunc(got, l, func(a, b doubt.Item) bool {
			return a.ID == b.ID && a.Inc == b.Inc && a.Since == b.Since && a.Hold == b.Hold && slices.Equal(a.Who, b.Who)
		})
		if !same {
			t.Errorf("%s: %v, want %v", what, got, l)
		}
	}
	tell(t, n, 3, 1, alive(2, 5))
	want("alive")
	tell(t, n, 3, 1, suspect(2, 4))
	want("suspected of a lesser Inc")
	tell(t, n, 3, 1, suspect(2, 5))
	want("suspected", doubt.Item{ID: 2, Inc: 5, Since: 3, Hold: 20})
	tell(t, n, 4, 4, suspect(2, 5))
	want("confirmed", doubt.Item{ID: 2, Inc: 5, Since: 3, Hold: 20, Who: []int{4}})
	tell(t, n, 5, 4, suspect(2, 5))
	want("confirmed again by the same", doubt.Item{ID: 2, Inc: 5, Since: 3, Hold: 20, Who: []int{4}})
	tell(t, n, 5, 1, suspect(2, 5))
	want("confirmed by who told it first", doubt.Item{ID: 2, Inc: 5, Since: 3, Hold: 20, Who: []int{1, 4}})
	tell(t, n, 5, 2, suspect(2, 5))
	want("told by itself", doubt.Item{ID: 2, Inc: 5, Since: 3, Hold: 20, Who: []int{1, 4}})
	tell(t, n, 5, 7, alive(2, 5), suspect(2, 4), suspect(2, 3), dead(2, 4))
	want("older ones", doubt.Item{ID: 2, Inc: 5, Since: 3, Hold: 20, Who: []int{1, 4}})
	tell(t, n, 6, 7, moved(suspect(2, 5), at(1, 1)))
	want("confirmed, at a lesser address, that turns nothing", doubt.Item{ID: 2, Inc: 5, Since: 3, Hold: 20, Who: []int{1, 4, 7}})
	tell(t, n, 6, 8, moved(suspect(2, 5), at(math.MaxUint32, 1)))
	want("confirmed, at a greater address, that turns something", doubt.Item{ID: 2, Inc: 5, Since: 3, Hold: 20, Who: []int{1, 4, 7, 8}})
	tell(t, n, 7, 8, suspect(2, 6))
	want("suspected of a greater Inc", doubt.Item{ID: 2, Inc: 6, Since: 7, Hold: 20})
	tell(t, n, 8, 8, suspect(3, 0), suspect(1, 0))
	want("others", doubt.Item{ID: 1, Since: 8, Hold: 20}, doubt.Item{ID: 2, Inc: 6, Since: 7, Hold: 20}, doubt.Item{ID: 3, Since: 8, Hold: 20})
	tell(t, n, 8, 8, alive(2, 7))
	want("alive again", doubt.Item{ID: 1, Since: 8, Hold: 20}, doubt.Item{ID: 3, Since: 8, Hold: 20})
	tell(t, n, 8, 8, dead(3, 0))
	want("dead of that Inc", doubt.Item{ID: 1, Since: 8, Hold: 20})
	tell(t, n, 8, 8, left(1, 0))
	want("left of that Inc")
	tell(t, n, 8, 8, suspect(3, 0), suspect(1, 0))
	want("suspected of the Inc of which they are dead, and left")
}

// P19.2: a doubt of the greatest Inc is of none below it, so that it stays also where that one is dead, or left.
func TestLearnMost(t *testing.T) {
	n := plain(t, 1)
	tell(t, n, 0, 1, suspect(2, math.MaxUint32), suspect(3, math.MaxUint32-1), suspect(4, math.MaxUint32))
	tell(t, n, 0, 1, dead(2, math.MaxUint32), dead(3, math.MaxUint32-1), left(4, math.MaxUint32))
	if l := n.doubt.Items(); len(l) != 2 || l[0].ID != 2 || l[1].ID != 4 {
		t.Errorf("Items: %v", l)
	}
	n.queue.Some(8)
	n.Tick(20)
	wantKnown(t, n, dead(2, math.MaxUint32))
	wantKnown(t, n, left(4, math.MaxUint32))
	if l := n.doubt.Items(); len(l) != 0 {
		t.Errorf("Items: %v", l)
	}
}

// P19.2: the path to one that is dead, or left, is lost, and a lease of it; but a client stays.
func TestLearnLost(t *testing.T) {
	for _, gone := range []func(id int, inc uint32) record.Record{dead, left} {
		n := plain(t, 1, 2)
		n.leases.Ask(0, 0, []int{1, 2}, []complex128{0, 0})
		n.leases.Got(1, 50, 0)
		n.leases.Got(2, 50, 0)
		n.paths.Want(1, 0)
		n.paths.Want(2, 0)
		n.clients.Grant(1, home(1), 0)
		was := n.Clients()
		tell(t, n, 0, 2, alive(1, 1), suspect(1, 1), suspect(2, 0), alive(2, 2))
		tell(t, n, 0, 2, gone(1, 0))
		wantHeld(t, n, 0, 1, 2)
		if len(n.Paths()) != 2 {
			t.Errorf("Paths: %v", n.Paths())
		}
		tell(t, n, 0, 2, gone(1, 1))
		wantHeld(t, n, 0, 2)
		wantPaths(t, n, path.Path{Peer: 2, State: 2})
		wantClients(t, n, was...)
		// Once only, as it turns something: what is wanted later stays.
		n.paths.Want(1, 0)
		tell(t, n, 0, 2, gone(1, 1))
		wantPaths(t, n, path.Path{Peer: 1, State: 2}, path.Path{Peer: 2, State: 2})
	}
}

// P19.2: it refutes what is over its own record, in an Inc above that, at its own address.
func TestRefute(t *testing.T) {
	c := conf(9, 1)
	c.Inc = 5
	n := made(t, c)
	was := stateOf(n)
	tell(t, n, 0, 1, alive(9, 5), dead(9, 4), left(9, 4), suspect(9, 0), moved(alive(9, 5), at(1, 1)))
	stays(t, n, was, "what is not over it")
	tell(t, n, 0, 1, suspect(9, 5))
	wantMe(t, n, alive(9, 6))
	wantQueue(t, n, item(alive(9, 6), 6))
	tell(t, n, 0, 1, moved(alive(9, 6), at(math.MaxUint32, 2)))
	wantMe(t, n, alive(9, 7))
	tell(t, n, 0, 1, dead(9, 7), dead(9, 7))
	wantMe(t, n, alive(9, 8))
	tell(t, n, 0, 1, left(9, 8))
	wantMe(t, n, alive(9, 9))
	tell(t, n, 0, 1, alive(9, 10))
	wantMe(t, n, alive(9, 11))
	tell(t, n, 0, 1, alive(2, 0), alive(3, 0), dead(9, 1000))
	wantMe(t, n, alive(9, 1001))
	wantQueue(t, n, item(alive(3, 0), 9), item(alive(9, 1001), 9), item(alive(2, 0), 6))
	tell(t, n, 0, 1, dead(9, math.MaxUint32))
	wantMe(t, n, alive(9, 1001))
	tell(t, n, 0, 1, alive(9, math.MaxUint32-1))
	wantMe(t, n, alive(9, math.MaxUint32))
	was = stateOf(n)
	tell(t, n, 0, 1, suspect(9, math.MaxUint32), dead(9, math.MaxUint32), left(9, math.MaxUint32))
	stays(t, n, was, "nothing is above the greatest Inc")
	if len(n.doubt.Items()) != 0 {
		t.Errorf("it suspects itself: %v", n.doubt.Items())
	}
}

// P19.2, P19.6: what is told by a Put of chapter 6 is got by its Get, from its ID.
func TestFrom(t *testing.T) {
	n := plain(t, 1, 2, 3)
	for now := uint64(0); now < 100; now++ {
		for _, s := range n.Tick(now) {
			m, e := wire.Get(s.Bytes)
			if e != api.OK || m.From != 9 || s.To.None() {
				t.Fatalf("Tick sent %v", words(s))
			}
			if m.Kind != wire.Relay {
				continue
			}
			if inner, e := wire.Get(m.Body); e != api.OK || inner.From != 9 || m.Seq != 0 {
				t.Fatalf("Tick sent %v", words(s))
			}
		}
	}
}
