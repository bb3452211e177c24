package node

import (
	"math"
	"slices"
	"testing"

	"scuttlebutt/addr"
	"scuttlebutt/draw"
	"scuttlebutt/lease"
	"scuttlebutt/path"
	"scuttlebutt/probe"
	"scuttlebutt/record"
	"scuttlebutt/wire"
)

// never: a time that no test here comes to.
const never = 1 << 50

// still: node 9, to which these are seeds, that has no round ahead.
func still(t *testing.T, seeds ...int) *Node {
	t.Helper()
	n := plain(t, seeds...)
	n.next = never
	return n
}

// classed: two rounds of n are over, in which something was heard, or nothing.
func classed(n *Node, heard bool) {
	for range 2 {
		n.reach.Round(1, 0)
		if heard {
			n.reach.Heard(1)
		}
		n.reach.End()
	}
}

// some: whom n's ring would draw of l.
func some(n *Node, l []int, k int) []int {
	drawn, _ := draw.New(n.ring.State()).Some(l, k)
	return drawn
}

// What is told to a seed.
func triangle(seq uint32, a addr.Addr) wire.Msg {
	return wire.Msg{Kind: wire.Triangle, Seq: seq, Addr: a}
}
func wantsLease() wire.Msg { return wire.Msg{Kind: wire.Lease, Flag: true} }
func keep() wire.Msg       { return wire.Msg{Kind: wire.Keep} }

// meet: what tells node to meet at that address.
func meet(node int, seq uint32, a addr.Addr) wire.Msg {
	return wire.Msg{Kind: wire.Meet, Seq: seq, Node: node, Addr: a}
}

// P19.4: what a node does by itself, whom nobody answers: all of it, tick by tick.
func TestTickAlone(t *testing.T) {
	n := plain(t, 1)
	tick := func(now uint64, want ...Send) {
		t.Helper()
		wantSends(t, "Tick", n.Tick(now), want...)
	}
	tick(0, raw(t, 9, home(1), triangle(1, home(9))), toHome(t, 9, 1, ping(1, 2)))
	for now := range uint64(4) {
		tick(now + 1)
	}
	tick(5, raw(t, 9, home(1), triangle(3, home(9))))
	for now := range uint64(4) {
		tick(now + 6)
	}
	wantKnown(t, n, alive(1, 0))
	tick(10, raw(t, 9, home(1), triangle(4, home(9))), toHome(t, 9, 1, ping(1, 5, suspect(1, 0))), raw(t, 9, home(1), wantsLease()))
	wantKnown(t, n, suspect(1, 0))
	tick(12)
	tick(15, raw(t, 9, home(1), triangle(6, home(9))), raw(t, 9, home(1), wantsLease()))
	tick(20, raw(t, 9, home(1), triangle(7, home(9))), toHome(t, 9, 1, ping(1, 8, suspect(1, 0))), raw(t, 9, home(1), wantsLease()))
	tick(27, raw(t, 9, home(1), triangle(9, home(9))), raw(t, 9, home(1), wantsLease()))
	tick(29)
	tick(30)
	wantKnown(t, n, dead(1, 0))
	tick(31)
	tick(32, raw(t, 9, home(1), triangle(10, home(9))))
	tick(37, raw(t, 9, home(1), triangle(11, home(9))))
	wantMe(t, n, alive(9, 0))
	wantPaths(t, n)
}

// P19.4: one node with nobody beside it.
func TestTickNobody(t *testing.T) {
	n := made(t, conf(1, 1))
	for now := range uint64(50) {
		wantSends(t, "Tick", n.Tick(now))
	}
	wantMe(t, n, alive(1, 0))
	if n.seq != 10 || n.ring.State() != 1 {
		t.Errorf("seq %d, State %d", n.seq, n.ring.State())
	}
}

// P19.4 (1): who is due is dead, of the Inc of which it was suspected, at the address that is known.
func TestBury(t *testing.T) {
	n := still(t, 1)
	far := at(math.MaxUint32, 5)
	tell(t, n, 3, 1, suspect(2, 7), suspect(3, 0), suspect(4, 0))
	tell(t, n, 3, 2, moved(suspect(2, 7), far), alive(4, 1))
	tell(t, n, 4, 5, suspect(3, 0))
	drained(n)
	wantSends(t, "Tick", n.Tick(12))
	wantKnown(t, n, suspect(3, 0))
	wantQueue(t, n)
	wantSends(t, "Tick", n.Tick(13))
	wantKnown(t, n, dead(3, 0))
	wantQueue(t, n, item(dead(3, 0), 9))
	n.paths.Want(2, never)
	wantSends(t, "Tick", n.Tick(23))
	wantKnown(t, n, moved(dead(2, 7), far))
	wantKnown(t, n, alive(4, 1))
	wantPaths(t, n)
	wantQueue(t, n, item(moved(dead(2, 7), far), 9), item(dead(3, 0), 9))
}

// P19.4 (1): nobody tells it, so who is doubted, and known to be alive, is dead, but confirmed by nobody.
func TestBuryWhen(t *testing.T) {
	n := still(t, 1)
	tell(t, n, 7, 1, suspect(2, 0))
	for now := uint64(7); now < 27; now++ {
		n.Tick(now)
		wantKnown(t, n, suspect(2, 0))
	}
	n.Tick(27)
	wantKnown(t, n, dead(2, 0))
}

// P19.4 (2): who did not answer is asked for by some of those live, but itself and the target, drawn, in that order.
func TestAsk(t *testing.T) {
	for fan := 1; fan <= 4; fan++ {
		for others := range 7 {
			c := conf(9, 1)
			c.Fan, c.Draw = fan, uint64(fan*100+others)
			n := made(t, c)
			n.next = never
			tell(t, n, 0, 1, moved(alive(1, 1), at(11, 1)), dead(30, 0), left(31, 0))
			live := []int{}
			for id := 2; id < 2+others; id++ {
				tell(t, n, 0, 1, suspect(id, 0))
				live = append(live, id)
			}
			drained(n)
			n.probe, _ = n.probe.Start(1, 50, 2)
			wantSends(t, "Tick", n.Tick(6))
			var want []Send
			for _, id := range some(n, live, fan) {
				want = append(want, toHome(t, 9, id, wire.Msg{Kind: wire.PingReq, Seq: 50, Node: 1, Addr: at(11, 1)}))
			}
			if len(want) != min(fan, others) {
				t.Fatalf("%d are to be asked", len(want))
			}
			wantSends(t, "Tick", n.Tick(7), want...)
			if _, after := draw.New(c.Draw).Some(live, fan); n.ring.State() != after.State {
				t.Errorf("the ring's State: %d", n.ring.State())
			}
			if n.probe != (probe.Probe{Stage: 2, Target: 1, Seq: 50, Until: 12, First: 5, Second: 5}) {
				t.Errorf("the probe: %+v", n.probe)
			}
			wantSends(t, "Tick", n.Tick(8))
		}
	}
}

// P19.4 (2): each who is asked is told the news, and they are told by that.
func TestAskNews(t *testing.T) {
	n := still(t, 1)
	tell(t, n, 0, 1, alive(2, 0), alive(3, 0))
	drained(n)
	n.queue.Add(dead(4, 0), 1)
	n.queue.Add(dead(5, 0), 2)
	n.probe, _ = n.probe.Start(1, 50, 0)
	n.paths.Open(2, at(22, 2), 1)
	who := some(n, []int{2, 3}, 2)
	asked := func(l ...record.Record) wire.Msg {
		return wire.Msg{Kind: wire.PingReq, Seq: 50, Node: 1, Addr: home(1), News: l}
	}
	first, second := asked(dead(5, 0), dead(4, 0)), asked(dead(5, 0))
	want := []Send{raw(t, 9, at(22, 2), first), toHome(t, 9, 3, second)}
	if who[0] == 3 {
		want = []Send{toHome(t, 9, 3, first), raw(t, 9, at(22, 2), second)}
	}
	wantSends(t, "Tick", n.Tick(5), want...)
	wantQueue(t, n)
}

// P19.4 (2): the target is suspected, if it is alive, of its Inc and at its Addr; else nothing is done.
func TestFail(t *testing.T) {
	failed := func(known record.Record) *Node {
		n := still(t, 1)
		n.probe, _ = n.probe.Start(2, 50, 0)
		tell(t, n, 0, 1, known)
		drained(n)
		n.Tick(5)
		drained(n)
		wantSends(t, "Tick", n.Tick(10))
		if n.probe != (probe.Probe{First: 5, Second: 5}) {
			t.Errorf("the probe: %+v", n.probe)
		}
		return n
	}
	n := failed(moved(alive(2, 7), at(22, 2)))
	wantKnown(t, n, moved(suspect(2, 7), at(22, 2)))
	wantQueue(t, n, item(moved(suspect(2, 7), at(22, 2)), 6))
	if l := n.doubt.Items(); len(l) != 1 || l[0].ID != 2 || l[0].Inc != 7 || l[0].Since != 10 || l[0].Hold != 20 || len(l[0].Who) != 0 {
		t.Errorf("Items: %v", l)
	}
	for _, known := range news(suspect(2, 3), dead(2, 3), left(2, 3)) {
		n = failed(known)
		wantKnown(t, n, known)
		wantQueue(t, n)
	}
	if l := failed(suspect(2, 3)).doubt.Items(); len(l) != 1 || l[0].Since != 0 || len(l[0].Who) != 0 {
		t.Errorf("Items: %v", l)
	}
	// Nobody knows the target: nothing is learned of it.
	n = failed(alive(3, 0))
	if _, ok := n.View().Of(2); ok {
		t.Error("a target is known that nobody knows")
	}
	if l := n.View().Members(); len(l) != 3 {
		t.Errorf("Members: %v", l)
	}
}

// P19.4 (3): a round each period, counted from when it was done; the numbers go on; a round of the Reach ends, and another begins.
func TestRound(t *testing.T) {
	n := plain(t, 1)
	n.seq = 70
	want := *n.reach
	tick := func(now uint64, next uint64, seq uint32) {
		t.Helper()
		n.Tick(now)
		if n.next != next || n.seq != seq || *n.reach != want {
			t.Errorf("Tick(%d): next %d, seq %d, %+v; want %d, %d, %+v", now, n.next, n.seq, n.reach, next, seq, want)
		}
	}
	want.Round(71, 3)
	tick(3, 8, 72)
	want.Heard(71)
	n.reach.Heard(71)
	tick(7, 8, 72)
	want.End()
	want.Round(73, 8)
	n.probe, _ = n.probe.Ack(72)
	tick(8, 13, 74)
	want.End()
	want.Round(75, 100)
	tick(100, 105, 75)
	if n.Class() != 1 {
		t.Errorf("Class: %d", n.Class())
	}
	want.End()
	want.Round(76, 105)
	tick(105, 110, 77)
	if n.Class() != 2 {
		t.Errorf("Class: %d", n.Class())
	}
}

// P19.4 (3): a round at an earlier time than the last one is none.
func TestRoundBack(t *testing.T) {
	n := plain(t, 1)
	n.Tick(1000)
	was := stateOf(n)
	wantSends(t, "Tick", n.Tick(4))
	stays(t, n, was, "an earlier time")
}

// P19.4 (3): a seed but itself, drawn of the seeds' IDs in the order of the Config, also of who is dead, is asked at the Addr of the Config to have something sent here, where its record says.
func TestAskToBeReached(t *testing.T) {
	for seed := range uint64(20) {
		c := conf(2, 5, 2, 1, 4)
		c.Draw, c.Addr = seed, at(99, 9)
		n := made(t, c)
		tell(t, n, 0, 1, dead(1, 0), dead(4, 0), moved(dead(5, 0), at(55, 5)))
		who := some(n, []int{5, 1, 4}, 1)[0]
		wantSends(t, "Tick", n.Tick(0), raw(t, 2, home(who), triangle(1, at(99, 9))))
		_, after := draw.New(seed).Some([]int{5, 1, 4}, 1)
		if n.ring.State() != after.State {
			t.Errorf("the ring's State: %d", n.ring.State())
		}
	}
}

// P19.4 (3): the next of the ring, of those live but itself, is probed, and a path to it is wanted, if it is no seed.
func TestProbeNext(t *testing.T) {
	for seed := range uint64(30) {
		c := conf(9, 1, 2)
		c.Draw = seed
		n := made(t, c)
		tell(t, n, 0, 1, alive(3, 0), suspect(4, 0), dead(5, 0), left(6, 0))
		drained(n)
		n.queue.Add(dead(5, 0), 1)
		reached, stream := draw.New(seed).Some([]int{1, 2}, 1)
		mixed, after := stream.Mix([]int{1, 2, 3, 4})
		target := mixed[0]
		want := []Send{raw(t, 9, home(reached[0]), triangle(1, home(9))), toHome(t, 9, target, ping(target, 2, dead(5, 0)))}
		var paths []path.Path
		if target > 2 {
			// The path is tried in the same Tick.
			want = append(want, toHome(t, 9, target, meet(target, 1, home(9))))
			paths = append(paths, path.Path{Peer: target, State: 2, Tries: 1, Next: 12})
		}
		wantSends(t, "Tick", n.Tick(7), want...)
		wantPaths(t, n, paths...)
		wantQueue(t, n)
		if n.probe != (probe.Probe{Stage: 1, Target: target, Seq: 2, Until: 12, First: 5, Second: 5}) || n.ring.State() != after.State || n.seq != 2 {
			t.Errorf("Tick: %+v, %d, %d", n.probe, n.ring.State(), n.seq)
		}
		if l := n.ring.Left(); !slices.Equal(l, mixed[1:]) {
			t.Errorf("left: %v, want %v", l, mixed[1:])
		}
	}
}

// P19.4 (3): who is a seed wants paths too, but to no seed.
func TestSeedProbes(t *testing.T) {
	n := made(t, conf(1, 1))
	tell(t, n, 0, 2, alive(2, 0))
	drained(n)
	wantSends(t, "Tick", n.Tick(0), toHome(t, 1, 2, ping(2, 2)), toHome(t, 1, 2, meet(2, 1, home(1))))
	n = made(t, conf(1, 1, 2))
	wantSends(t, "Tick", n.Tick(0), raw(t, 1, home(2), triangle(1, home(1))), toHome(t, 1, 2, ping(2, 2)))
}

// P19.4 (3): a probe that goes on leaves no other one begin, nor does it move the ring; one that failed in this Tick does.
func TestProbeGoesOn(t *testing.T) {
	n := plain(t, 1)
	n.probe, _ = n.probe.Start(20, 50, 3)
	_, after := draw.New(9).Some([]int{1}, 1)
	wantSends(t, "Tick", n.Tick(5), raw(t, 9, home(1), triangle(1, home(9))))
	if n.probe.Target != 20 || n.seq != 1 || n.ring.State() != after.State || len(n.ring.Left()) != 0 {
		t.Errorf("Tick: %+v, %d, %d", n.probe, n.seq, n.ring.State())
	}
	n.next = never
	n.Tick(8)
	n.next = 13
	wantSends(t, "Tick", n.Tick(13), raw(t, 9, home(1), triangle(2, home(9))), toHome(t, 9, 1, ping(1, 3)))
}

// P19.4 (4): of the seeds that are live the nearest are asked for a lease, raw, at the Addr of the Config, as many as are wanted; who was asked is left alone for a period.
func TestLeasing(t *testing.T) {
	c := conf(9, 1, 2, 3, 4, 5)
	c.Place = 0
	c.Seeds[0].Place, c.Seeds[1].Place, c.Seeds[2].Place, c.Seeds[3].Place, c.Seeds[4].Place = 5, 3i, -2, 3, 1
	n := made(t, c)
	n.next = never
	tell(t, n, 0, 1, moved(suspect(2, 0), at(22, 2)), dead(5, 0))
	ask := func(now uint64, ids ...int) {
		t.Helper()
		var want []Send
		for _, id := range ids {
			want = append(want, raw(t, 9, home(id), wantsLease()))
		}
		wantSends(t, "Tick", n.Tick(now), want...)
	}
	ask(0)
	classed(n, false)
	// The least far are 5, which is dead, 3, and then 2 and 4, of which 2 stands first.
	ask(1, 3, 2)
	ask(1, 4, 1)
	ask(5)
	ask(6, 3, 2)
	n.leases.Got(2, 12, 6)
	n.leases.Lost(3)
	ask(7, 3)
	n.leases.Got(3, 13, 7)
	ask(8)
	ask(11)
	// The lease of 2 is over: it is swept, and may be asked at once, as the nearest that is not held.
	ask(12, 2)
	ask(13, 3, 4)
}

// P19.4 (4): leases are swept: who was held is as if it was never asked.
func TestLeasesSwept(t *testing.T) {
	n := still(t, 1)
	n.leases.Ask(0, 0, []int{1}, []complex128{0})
	n.leases.Got(1, 3, 0)
	was := *n.leases
	wantSends(t, "Tick", n.Tick(3))
	if *n.leases != was {
		t.Error("swept, though it isn't known to be private")
	}
	classed(n, false)
	wantSends(t, "Tick", n.Tick(2))
	wantSends(t, "Tick", n.Tick(3), raw(t, 9, home(1), wantsLease()))
}

// P19.4 (4), (7): who is public, or of whom it isn't known, or a seed asks for no lease, keeps none, and is at the address of none.
func TestNotLeasing(t *testing.T) {
	seed, unknown, public := made(t, conf(1, 1, 2)), plain(t, 1, 2), plain(t, 1, 2)
	classed(seed, false)
	unknown.reach.Round(1, 0)
	classed(public, true)
	for i, n := range []*Node{seed, unknown, public} {
		n.leases.Ask(0, 0, []int{2}, []complex128{0})
		n.leases.Got(2, 50, 0)
		me := n.Me()
		for now := range uint64(5) {
			for _, s := range n.Tick(now) {
				if m, _ := wire.Get(s.Bytes); m.Kind == wire.Lease || m.Kind == wire.Keep {
					t.Errorf("%d sent %v", i, words(s))
				}
			}
		}
		wantMe(t, n, me)
	}
}

// P19.4 (4): in a round, and only then, each lease that is held is kept, rising, at the Addr of the Config.
func TestKeeping(t *testing.T) {
	n := still(t, 3, 2, 1)
	classed(n, false)
	tell(t, n, 0, 1, moved(dead(3, 0), at(33, 3)))
	drained(n)
	n.leases.Ask(0, 0, []int{3, 1}, []complex128{0, 0})
	n.leases.Got(3, 60, 0)
	n.leases.Got(1, 50, 0)
	// At the address of seed 1, the least that it holds.
	wantSends(t, "Tick", n.Tick(1))
	wantMe(t, n, moved(alive(9, 1), home(1)))
	drained(n)
	n.next = 4
	n.probe, _ = n.probe.Start(20, 50, 4)
	reached := some(n, []int{3, 2, 1}, 1)[0]
	wantSends(t, "Tick", n.Tick(4), raw(t, 9, home(reached), triangle(1, home(1))), raw(t, 9, home(1), keep()), raw(t, 9, home(3), keep()))
	wantSends(t, "Tick", n.Tick(5))
}

// P19.4 (5): a path that is tried is told to meet, as if there were no path, at the address that most saw; one that is direct is kept.
func TestPaths(t *testing.T) {
	n := still(t, 1)
	n.paths.Want(20, 0)
	wantSends(t, "Syn to one that nobody knows", n.Tick(0))
	wantPaths(t, n, path.Path{Peer: 20, State: 2, Tries: 1, Next: 5})
	tell(t, n, 0, 1, moved(alive(20, 0), at(20, 2)), alive(21, 0), alive(22, 0))
	wantSends(t, "Tick", n.Tick(5), relayed(t, 9, at(20, 2), 20, meet(20, 1, home(9))))
	n.paths.Want(21, 15)
	n.paths.Open(22, at(22, 2), 10)
	n.reach.See(1, at(90, 9), 0)
	n.reach.See(2, at(91, 9), 0)
	n.reach.See(3, at(91, 9), 0)
	queued := n.Queue()
	wantSends(t, "Tick", n.Tick(15), relayed(t, 9, at(20, 2), 20, meet(20, 1, at(91, 9))), toHome(t, 9, 21, meet(21, 1, at(91, 9))), raw(t, 9, at(22, 2), keep()))
	wantQueue(t, n, queued...)
	wantSends(t, "Tick", n.Tick(20), toHome(t, 9, 21, meet(21, 1, home(9))), raw(t, 9, at(22, 2), keep()))
	n.clients.Grant(22, at(24, 2), 20)
	n.paths.Heard(22, at(22, 2), 11)
	// It is heard no more: it is tried, as a client first.
	wantSends(t, "Tick", n.Tick(31), toHome(t, 9, 21, meet(21, 1, home(9))), raw(t, 9, at(24, 2), meet(22, 1, home(9))))
	wantPaths(t, n, path.Path{Peer: 20, State: 2, Tries: 3, Next: 35}, path.Path{Peer: 21, State: 2, Tries: 3, Next: 51}, path.Path{Peer: 22, State: 2, Tries: 1, Next: 36})
}

// P19.4 (6): clients whose time is up go, after the paths.
func TestClientsSwept(t *testing.T) {
	n := made(t, conf(1, 1))
	n.next = never
	n.clients.Grant(5, home(5), 0)
	n.clients.Grant(6, home(6), 1)
	n.Tick(19)
	wantClients(t, n, lease.Client{ID: 5, Addr: home(5), Until: 20}, lease.Client{ID: 6, Addr: home(6), Until: 21})
	n.Tick(20)
	wantClients(t, n, lease.Client{ID: 6, Addr: home(6), Until: 21})
	n.Tick(1 << 62)
	wantClients(t, n)
}

// P19.4 (7): who is public is at the address that most saw, in a new Inc.
func TestReboundPublic(t *testing.T) {
	n := still(t, 1)
	n.reach.See(1, at(90, 9), 0)
	n.Tick(0)
	wantMe(t, n, alive(9, 0))
	classed(n, true)
	n.Tick(1)
	wantMe(t, n, moved(alive(9, 1), at(90, 9)))
	wantQueue(t, n, item(moved(alive(9, 1), at(90, 9)), 6))
	n.Tick(2)
	wantMe(t, n, moved(alive(9, 1), at(90, 9)))
	n.reach.See(2, at(80, 9), 0)
	n.Tick(19)
	wantMe(t, n, moved(alive(9, 2), at(80, 9)))
	// Nobody saw it lately: it stays where it was.
	n.Tick(20)
	wantMe(t, n, moved(alive(9, 2), at(80, 9)))
	if n.Class() != 1 {
		t.Error("not public")
	}
}

// P19.4 (7): who is private is at the address of the seed of the least ID of which it holds a lease.
func TestReboundPrivate(t *testing.T) {
	c := conf(9, 3, 1, 2)
	c.Inc = math.MaxUint32 - 3
	n := made(t, c)
	n.next = never
	classed(n, false)
	n.reach.See(1, at(90, 9), 0)
	n.leases.Ask(0, 0, []int{1, 2, 3}, []complex128{0, 0, 0})
	n.leases.Ask(0, 0, []int{3}, []complex128{0})
	n.Tick(0)
	wantMe(t, n, alive(9, math.MaxUint32-3))
	n.leases.Got(3, 9, 0)
	n.Tick(1)
	wantMe(t, n, moved(alive(9, math.MaxUint32-2), home(3)))
	n.leases.Got(2, 8, 0)
	tell(t, n, 1, 3, moved(dead(2, 0), at(22, 2)))
	n.leases.Ask(2, 0, []int{2}, []complex128{0})
	n.leases.Got(2, 8, 2)
	n.Tick(2)
	wantMe(t, n, moved(alive(9, math.MaxUint32-1), home(2)))
	n.Tick(7)
	wantMe(t, n, moved(alive(9, math.MaxUint32-1), home(2)))
	n.Tick(8)
	wantMe(t, n, moved(alive(9, math.MaxUint32), home(3)))
	drained(n)
	n.leases.Ask(8, 0, []int{2, 1}, []complex128{0, 0})
	n.leases.Got(1, 100, 8)
	n.Tick(8)
	wantHeld(t, n, 8, 1, 3)
	// In no Inc more than the greatest.
	wantMe(t, n, moved(alive(9, math.MaxUint32), home(3)))
	wantQueue(t, n)
}

// P19.4 (7): a seed stays where it is.
func TestReboundSeed(t *testing.T) {
	n := made(t, conf(1, 1, 2))
	n.next = never
	n.reach.See(2, at(90, 9), 0)
	classed(n, true)
	n.Tick(0)
	wantMe(t, n, alive(1, 0))
}

// P19.4: in this order: the dead are asked no more, asked is ahead of the round, the round ahead of leases, these ahead of paths, and where it is told last.
func TestTickOrder(t *testing.T) {
	n := still(t, 1, 2)
	tell(t, n, 0, 1, alive(20, 0), alive(21, 0), suspect(22, 0))
	drained(n)
	n.probe, _ = n.probe.Start(21, 50, 15)
	n.paths.Open(20, at(20, 2), 15)
	n.paths.Want(21, 18)
	n.reach.Round(1, 0)
	n.reach.End()
	n.reach.Round(2, 0)
	n.leases.Ask(0, 0, []int{1}, []complex128{0})
	n.leases.Got(1, 50, 0)
	n.clients.Grant(21, at(21, 2), 0)
	n.next = 20
	n.config.Fan = 1
	// Node 22 is dead by then, so 3 may ask.
	asked, stream := draw.New(9).Some([]int{1, 2, 20}, 1)
	reached, _ := stream.Some([]int{1, 2}, 1)
	asks := wire.Msg{Kind: wire.PingReq, Seq: 50, Node: 21, Addr: home(21), News: news(dead(22, 0))}
	first := toHome(t, 9, asked[0], asks)
	if asked[0] == 20 {
		first = raw(t, 9, at(20, 2), asks)
	}
	wantSends(t, "Tick", n.Tick(20), first,
		raw(t, 9, home(reached[0]), triangle(1, home(9))),
		raw(t, 9, home(2), wantsLease()), raw(t, 9, home(1), keep()),
		raw(t, 9, at(20, 2), keep()), toHome(t, 9, 21, meet(21, 1, home(9))))
	wantMe(t, n, moved(alive(9, 1), home(1)))
	wantClients(t, n)
}
