package node

import (
	"math"
	"strings"
	"testing"

	"scuttlebutt/addr"
	"scuttlebutt/api"
	"scuttlebutt/lease"
	"scuttlebutt/path"
	"scuttlebutt/probe"
	"scuttlebutt/record"
	"scuttlebutt/wire"
)

// ack: what answers a Ping of that Seq, of the node of that ID.
func ack(id int, seq uint32, l ...record.Record) wire.Msg {
	return wire.Msg{Kind: wire.Ack, Seq: seq, Place: site(id), News: l}
}

// pingReq: what asks for a Ping to node.
func pingReq(node int, seq uint32) wire.Msg {
	return wire.Msg{Kind: wire.PingReq, Seq: seq, Node: node, Addr: home(node)}
}

// inRelay: bytes, as from tells them in a Relay for node.
func inRelay(t *testing.T, from, node int, bytes string) string {
	t.Helper()
	return by(t, from, wire.Msg{Kind: wire.Relay, Node: node, Body: bytes})
}

// notMsgs: bytes that node 9 takes for bad.
func notMsgs(t *testing.T) []string {
	ok := by(t, 1, ping(9, 5, alive(2, 0)))
	l := []string{"", "\x00", "x", ok + "\x00", ok + ok, strings.Repeat("\x00", 1024), strings.Repeat("x", 1025), strings.Repeat("\x0c", 5000), "\x0c\x00\x00\x00\x00\x00", "\x0c\x21\x00\x00\x00\x00", "\x11\x01\x00\x00\x00\x00"}
	for n := range ok {
		l = append(l, ok[:n])
	}
	for kind := 1; kind <= 16; kind++ {
		l = append(l, anyOf(t, kind, 9, 9), anyOf(t, kind, 9, 1))
	}
	return l
}

// P19.5: what is no Msg, or told by itself, is one Bad more, and nothing else.
func TestBad(t *testing.T) {
	n := made(t, conf(9, 1, 9))
	n.Tick(0)
	tell(t, n, 0, 1, alive(2, 0), suspect(3, 0))
	n.paths.Open(9, home(9), 0)
	n.paths.Open(1, home(1), 0)
	was := stateOf(n)
	for i, s := range notMsgs(t) {
		wantSends(t, "Take of what is bad", n.Take(7, home(1), s))
		wantSends(t, "Take of what is bad", n.Take(7, home(9), s))
		was.bad += 2
		stays(t, n, was, "bad", i)
	}
	if n.Bad() != was.bad {
		t.Errorf("Bad: %d, want %d", n.Bad(), was.bad)
	}
}

// P19.5: in a Relay to it: what is no Msg, told by itself, or a Relay again, is one Bad more; the Relay itself is none.
func TestBadInRelay(t *testing.T) {
	n := made(t, conf(9, 1, 9))
	tell(t, n, 0, 1, alive(2, 0))
	was := stateOf(n)
	var bad []string
	for _, s := range notMsgs(t) {
		if 0 < len(s) && len(s) <= 900 {
			bad = append(bad, s)
		}
	}
	inner := by(t, 2, wire.Msg{Kind: wire.Ping, Node: 9})
	bad = append(bad, inRelay(t, 2, 9, inner), inRelay(t, 2, 9, "x"), inRelay(t, 2, 20, inner), inRelay(t, 1, 9, inRelay(t, 1, 9, inner)))
	n.clients.Grant(20, home(20), 0)
	was.clients = *n.clients
	for i, s := range bad {
		wantSends(t, "Take of what is bad", n.Take(7, home(1), inRelay(t, 1, 9, s)))
		was.bad++
		stays(t, n, was, "bad", i)
	}
}

// P19.5: the path of who tells something is heard, if it came from there; also in a Relay, of both.
func TestHeard(t *testing.T) {
	n := plain(t, 1)
	for _, id := range []int{2, 3} {
		n.paths.Open(id, home(id), 0)
	}
	until := func(what string, want2, want3 uint64) {
		t.Helper()
		p2, _ := n.paths.Of(2)
		p3, _ := n.paths.Of(3)
		if p2.Until != want2 || p3.Until != want3 {
			t.Errorf("%s: until %d and %d, want %d and %d", what, p2.Until, p3.Until, want2, want3)
		}
	}
	until("at first", 20, 20)
	take(t, n, 4, 2, keep())
	until("from 2", 24, 20)
	n.Take(5, home(3), by(t, 2, keep()))
	until("of 2, from elsewhere", 24, 20)
	n.Take(6, home(2), inRelay(t, 2, 9, by(t, 3, keep())))
	until("of 3, in a Relay of 2, from 2", 26, 20)
	n.Take(7, home(3), inRelay(t, 2, 9, by(t, 3, keep())))
	until("of 3, in a Relay of 2, from 3", 26, 27)
	n.Take(8, home(3), inRelay(t, 3, 9, by(t, 3, keep())))
	until("of 3, in its own Relay", 26, 28)
	n.Take(9, home(2), inRelay(t, 2, 20, by(t, 3, keep())))
	until("of 2, for another one", 29, 28)
	n.Take(10, home(2), inRelay(t, 2, 9, "x"))
	until("of 2, with what is bad in it", 30, 28)
	n.Take(11, home(3), inRelay(t, 2, 9, inRelay(t, 3, 9, by(t, 3, keep()))))
	until("of 3, in a Relay in a Relay", 30, 28)
	if n.Bad() != 2 {
		t.Errorf("Bad: %d", n.Bad())
	}
}

// P19.5: news are learned of every kind that has them, told by From, ahead of what is done by the kind.
func TestNews(t *testing.T) {
	for kind := 1; kind <= 16; kind++ {
		has, _ := wire.Has(kind)
		n := plain(t, 1)
		n.Take(3, home(1), anyOf(t, kind, 1, 9))
		if _, ok := n.View().Of(26); ok != strings.Contains(has, "r") && kind != wire.Relay {
			t.Errorf("kind %d: known %v", kind, ok)
		}
		if n.Bad() != 0 {
			t.Errorf("kind %d is bad", kind)
		}
	}
	n := plain(t, 1)
	tell(t, n, 0, 1, suspect(3, 0))
	tell(t, n, 1, 2, suspect(3, 0), suspect(4, 0), alive(3, 1), suspect(3, 1), suspect(3, 1))
	if l := n.doubt.Items(); len(l) != 2 || l[0].Inc != 1 || l[0].Since != 1 || len(l[0].Who) != 1 || l[0].Who[0] != 2 || len(l[1].Who) != 0 {
		t.Errorf("Items: %v", l)
	}
	// Who pings is told where it is at home by the Ping's own news, and is told these too.
	n = plain(t, 1)
	wantSends(t, "Ping", take(t, n, 0, 20, ping(9, 8, moved(alive(20, 0), at(20, 2)))), relayed(t, 9, at(20, 2), 20, ack(9, 8, moved(alive(20, 0), at(20, 2)))))
}

// P19.5: a Relay to it is taken as if it had come from there; to a client it goes on as it is; to another one it goes nowhere.
func TestRelay(t *testing.T) {
	n := made(t, conf(1, 1))
	there := at(77, 7)
	wantSends(t, "Relay to it", n.Take(0, there, inRelay(t, 2, 1, by(t, 3, ping(1, 6)))), raw(t, 1, there, ack(1, 6)))
	wantSends(t, "Relay to it", n.Take(0, there, inRelay(t, 2, 1, by(t, 3, wire.Msg{Kind: wire.Syn, Node: 1}))), raw(t, 1, there, wire.Msg{Kind: wire.SynAck, Node: 3}))
	wantPaths(t, n, path.Path{Peer: 3, State: 3, Addr: there, Next: 5, Until: 20})
	n.clients.Grant(4, at(44, 4), 0)
	was := stateOf(n)
	for _, body := range []string{"x", strings.Repeat("\x00", 900), by(t, 3, ping(4, 6, alive(30, 0))), by(t, 1, ping(4, 6)), inRelay(t, 5, 6, "x")} {
		wantSends(t, "Relay to a client", n.Take(19, there, inRelay(t, 2, 4, body)), Send{To: at(44, 4), Bytes: body})
		wantSends(t, "Relay of the client to itself", n.Take(19, at(44, 4), inRelay(t, 4, 4, body)), Send{To: at(44, 4), Bytes: body})
		wantSends(t, "Relay to nobody", n.Take(19, there, inRelay(t, 2, 5, body)))
		wantSends(t, "Relay to one by a path", n.Take(19, home(2), inRelay(t, 2, 3, body)))
		wantSends(t, "Relay to a client no more", n.Take(20, there, inRelay(t, 2, 4, body)))
		stays(t, n, was, "a Relay to another one")
	}
}

// P19.5: a Ping to it is answered: routed; where From is known by nobody, and by no path, from where it came; one to another node is not.
func TestPing(t *testing.T) {
	n := made(t, conf(1, 1))
	there := at(77, 7)
	pinged := func(what string, now uint64, want Send) {
		t.Helper()
		wantSends(t, what, n.Take(now, there, by(t, 2, ping(1, 40))), want)
	}
	pinged("Ping of one that nobody knows", 0, raw(t, 1, there, ack(1, 40)))
	n.paths.Want(2, 0)
	pinged("Ping of one to whom a path is tried", 0, raw(t, 1, there, ack(1, 40)))
	n.clients.Grant(2, at(22, 2), 0)
	pinged("Ping of a client", 19, raw(t, 1, at(22, 2), ack(1, 40)))
	pinged("Ping of one that is a client no more", 20, raw(t, 1, there, ack(1, 40)))
	n.paths.Open(2, at(23, 2), 0)
	pinged("Ping of one with a path", 20, raw(t, 1, at(23, 2), ack(1, 40)))
	n.paths.Lost(2)
	tell(t, n, 20, 2, moved(dead(2, 0), at(24, 2)))
	drained(n)
	pinged("Ping of one that the view knows", 20, relayed(t, 1, at(24, 2), 2, ack(1, 40)))
	n.queue.Add(alive(5, 0), 1)
	pinged("Ping with news", 20, relayed(t, 1, at(24, 2), 2, ack(1, 40, alive(5, 0))))
	n.queue.Add(alive(5, 0), 1)
	was := stateOf(n)
	wantSends(t, "Ping to another one", take(t, n, 20, 2, ping(2, 40)))
	wantSends(t, "Ping to another one", take(t, n, 20, 2, ping(3, 40)))
	stays(t, n, was, "a Ping to another one")
	most := by(t, 2, ping(1, math.MaxUint32))
	wantSends(t, "Ping of the greatest Seq", n.Take(1<<62, there, most), relayed(t, 1, at(24, 2), 2, ack(1, math.MaxUint32, alive(5, 0))))
}

// P19.5: who asks for a ping has it sent, and is told of the answer, once, with its own Seq.
func TestPingReq(t *testing.T) {
	n := plain(t, 1)
	tell(t, n, 0, 1, alive(2, 0), alive(3, 0), alive(4, 0))
	drained(n)
	n.seq = 60
	n.queue.Add(dead(5, 0), 2)
	wantSends(t, "PingReq", take(t, n, 0, 2, pingReq(3, 7)), toHome(t, 9, 3, ping(3, 61, dead(5, 0))))
	if n.seq != 61 {
		t.Errorf("seq: %d", n.seq)
	}
	was := stateOf(n)
	wantSends(t, "Ack of another Seq", take(t, n, 0, 3, ack(3, 60)))
	wantSends(t, "Ack of the asker's Seq", take(t, n, 0, 3, ack(3, 7)))
	wantSends(t, "Ack of another one", take(t, n, 0, 4, ack(4, 61)))
	wantSends(t, "Ack of who asked", take(t, n, 0, 2, ack(2, 61)))
	stays(t, n, was, "an Ack that answers nothing")
	wantSends(t, "Ack", take(t, n, 1, 3, ack(3, 61)), toHome(t, 9, 2, ack(9, 7, dead(5, 0))))
	wantQueue(t, n)
	was = stateOf(n)
	if len(was.asks) != 0 {
		t.Errorf("it is remembered: %v", was.asks)
	}
	wantSends(t, "Ack once more", take(t, n, 1, 3, ack(3, 61)))
	stays(t, n, was, "an Ack once more")
	wantSends(t, "PingReq for itself", take(t, n, 1, 2, pingReq(9, 7)))
	stays(t, n, was, "a PingReq for itself")
	wantSends(t, "PingReq for who asks", take(t, n, 1, 2, pingReq(2, 8)), toHome(t, 9, 2, ping(2, 62)))
	wantSends(t, "Ack of who asks", take(t, n, 1, 2, ack(2, 62)), toHome(t, 9, 2, ack(9, 8)))
	wantSends(t, "PingReq for one that nobody knows", take(t, n, 1, 2, pingReq(20, 9)))
	wantSends(t, "Ack of one that nobody knows", take(t, n, 1, 20, ack(20, 63)), toHome(t, 9, 2, ack(9, 9)))
	wantSends(t, "PingReq of one that nobody knows", take(t, n, 1, 20, pingReq(2, 9)), toHome(t, 9, 2, ping(2, 64)))
	wantSends(t, "Ack for one that nobody knows", take(t, n, 1, 2, ack(2, 64)))
	if len(n.asks) != 0 || n.Bad() != 0 {
		t.Errorf("asks: %v, Bad: %d", n.asks, n.Bad())
	}
}

// P19.5: the last 8 are remembered; who is asked for twice is answered twice, each by its Seq.
func TestLastAsks(t *testing.T) {
	n := plain(t, 1)
	tell(t, n, 0, 1, alive(2, 0), alive(3, 0))
	drained(n)
	for i := range uint32(9) {
		wantSends(t, "PingReq", take(t, n, 0, 2, pingReq(3, 100+i)), toHome(t, 9, 3, ping(3, 1+i)))
	}
	wantSends(t, "Ack of the first", take(t, n, 0, 3, ack(3, 1)))
	wantSends(t, "Ack of the fifth", take(t, n, 0, 3, ack(3, 5)), toHome(t, 9, 2, ack(9, 104)))
	wantSends(t, "PingReq", take(t, n, 0, 2, pingReq(3, 200)), toHome(t, 9, 3, ping(3, 10)))
	for _, seq := range []uint32{10, 2, 9, 3, 4, 8, 7, 6} {
		want := 99 + seq
		if seq == 10 {
			want = 200
		}
		wantSends(t, "Ack", take(t, n, 0, 3, ack(3, seq)), toHome(t, 9, 2, ack(9, want)))
	}
	if len(n.asks) != 0 {
		t.Errorf("asks: %v", n.asks)
	}
	for i := range uint32(1000) {
		take(t, n, 0, 2, pingReq(3, i))
	}
	if len(n.asks) != 8 || cap(n.asks) > 32 {
		t.Errorf("%d are remembered, with room for %d", len(n.asks), cap(n.asks))
	}
}

// P19.5: of several that are remembered with the same Seq the first is answered.
func TestFirstAsk(t *testing.T) {
	n := plain(t, 1)
	tell(t, n, 0, 1, alive(2, 0), alive(3, 0))
	drained(n)
	take(t, n, 0, 2, pingReq(3, 7))
	n.seq = 0
	take(t, n, 0, 3, pingReq(2, 8))
	n.seq = 0
	take(t, n, 0, 1, pingReq(3, 9))
	wantSends(t, "Ack", take(t, n, 0, 3, ack(3, 1)), toHome(t, 9, 2, ack(9, 7)))
	wantSends(t, "Ack", take(t, n, 0, 3, ack(3, 1)), toHome(t, 9, 1, ack(9, 9)))
	wantSends(t, "Ack", take(t, n, 0, 2, ack(2, 1)), toHome(t, 9, 3, ack(9, 8)))
}

// P19.5: Ack and Nack are of the probe, by their Seq; one Ack may answer both the probe and who asked.
func TestAckNack(t *testing.T) {
	n := plain(t, 1)
	n.probe, _ = n.probe.Start(2, 50, 0)
	was := stateOf(n)
	take(t, n, 0, 2, ack(2, 51))
	take(t, n, 0, 2, wire.Msg{Kind: wire.Nack, Seq: 50, Node: 2})
	stays(t, n, was, "what is not of the probe")
	n.Tick(5)
	take(t, n, 5, 3, wire.Msg{Kind: wire.Nack, Seq: 51, Node: 2})
	take(t, n, 5, 3, wire.Msg{Kind: wire.Nack, Seq: 50, Node: 7})
	if n.probe.Nacks != 1 || n.probe.Stage != 2 {
		t.Errorf("the probe: %+v", n.probe)
	}
	n.seq = 49
	take(t, n, 5, 4, pingReq(2, 8))
	tell(t, n, 5, 1, alive(4, 0))
	drained(n)
	wantSends(t, "Ack", take(t, n, 5, 2, ack(2, 50)), toHome(t, 9, 4, ack(9, 8)))
	if n.probe != (probe.Probe{First: 5, Second: 5}) {
		t.Errorf("the probe: %+v", n.probe)
	}
	// Whoever tells that Seq answers the probe.
	n.probe, _ = n.probe.Start(2, 70, 6)
	wantSends(t, "Ack", take(t, n, 6, 30, ack(30, 70)))
	if n.probe.Stage != probe.Idle {
		t.Errorf("the probe: %+v", n.probe)
	}
}

// P19.5: who asks for it is told where it was seen, and another one is to tell it so too, that tells it to that address.
func TestTriangle(t *testing.T) {
	n := plain(t, 1)
	there := at(77, 7)
	triangleFrom := func(from int) string { return by(t, from, triangle(30, at(55, 5))) }
	tell(t, n, 0, 1, alive(2, 0), suspect(3, 0), dead(4, 0), left(5, 0))
	queued := n.Queue()
	for _, from := range []int{1, 2, 3, 4, 20} {
		live := without([]int{1, 2, 3}, from)
		who := some(n, live, 1)[0]
		wantSends(t, "Triangle", n.Take(0, there, triangleFrom(from)),
			raw(t, 9, there, wire.Msg{Kind: wire.Seen, Seq: 30, Addr: there}),
			toHome(t, 9, who, wire.Msg{Kind: wire.Triangle, Seq: 30, Addr: there, Flag: true}))
	}
	wantQueue(t, n, queued...)
	// The stream is drawn from also where nothing goes.
	state := n.ring.State()
	wantSends(t, "Triangle from nowhere", n.Take(0, addr.Addr{}, triangleFrom(1)))
	if n.ring.State() == state {
		t.Error("nobody was drawn")
	}
	alone := plain(t, 1)
	wantSends(t, "Triangle of the one other", alone.Take(0, there, triangleFrom(1)), raw(t, 9, there, wire.Msg{Kind: wire.Seen, Seq: 30, Addr: there}))
	was := stateOf(n)
	wantSends(t, "Triangle with Flag", n.Take(0, there, by(t, 1, wire.Msg{Kind: wire.Triangle, Seq: 31, Addr: at(55, 5), Flag: true})), raw(t, 9, at(55, 5), wire.Msg{Kind: wire.Seen, Seq: 31, Addr: at(55, 5), Flag: true}))
	stays(t, n, was, "a Triangle with Flag")
}

// P19.5: a Seen is a vote; with Flag it was heard, in the round of that Seq.
func TestSeen(t *testing.T) {
	n := plain(t, 1)
	n.Tick(0)
	want := *n.reach
	see := func(what string, m wire.Msg) {
		t.Helper()
		wantSends(t, what, take(t, n, 3, 4, m))
		if *n.reach != want {
			t.Errorf("%s: %+v, want %+v", what, *n.reach, want)
		}
	}
	want.See(4, at(90, 9), 3)
	see("Seen", wire.Msg{Kind: wire.Seen, Seq: 1, Addr: at(90, 9)})
	want.See(4, at(91, 9), 3)
	see("Seen, of another Seq", wire.Msg{Kind: wire.Seen, Seq: 99, Addr: at(91, 9)})
	see("Seen, with Flag, of another Seq", wire.Msg{Kind: wire.Seen, Seq: 2, Addr: at(92, 9), Flag: true})
	want.Heard(1)
	see("Seen, with Flag", wire.Msg{Kind: wire.Seen, Seq: 1, Addr: at(92, 9), Flag: true})
	if v := n.reach.Votes(); len(v) != 1 || v[0].Addr != at(91, 9) {
		t.Errorf("Votes: %v", v)
	}
}

// P19.5: a Meet to it sends a Syn to the Addr; one with a Seq is answered, as if there were no path; a path is wanted.
func TestMeet(t *testing.T) {
	n := made(t, conf(1, 1, 2))
	there := at(55, 5)
	syn := raw(t, 1, there, wire.Msg{Kind: wire.Syn, Node: 3})
	wantSends(t, "Meet of one that nobody knows", take(t, n, 7, 3, meet(1, 1, there)), syn)
	wantPaths(t, n, path.Path{Peer: 3, State: 2, Next: 7})
	tell(t, n, 7, 2, alive(3, 0))
	queued := n.Queue()
	for _, seq := range []uint32{1, 2, math.MaxUint32} {
		wantSends(t, "Meet", take(t, n, 8, 3, meet(1, seq, there)), syn, toHome(t, 1, 3, meet(3, 0, home(1))))
	}
	wantPaths(t, n, path.Path{Peer: 3, State: 2, Next: 7})
	n.paths.Open(3, home(3), 7)
	n.reach.See(2, at(90, 9), 7)
	wantSends(t, "Meet of one with a path", n.Take(8, home(4), by(t, 3, meet(1, 1, there))), syn, toHome(t, 1, 3, meet(3, 0, at(90, 9))))
	wantPaths(t, n, path.Path{Peer: 3, State: 3, Addr: home(3), Next: 12, Until: 27})
	n.clients.Grant(3, at(33, 3), 8)
	wantSends(t, "Meet of a client", n.Take(27, home(4), by(t, 3, meet(1, 1, there))), syn, raw(t, 1, at(33, 3), meet(3, 0, home(1))))
	n.paths.Lost(3)
	wantSends(t, "Meet of Seq 0", n.Take(9, home(4), by(t, 3, meet(1, 0, there))), syn)
	wantPaths(t, n, path.Path{Peer: 3, State: 2, Next: 9})
	wantQueue(t, n, queued...)
	n.paths.Lost(3)
	was := stateOf(n)
	wantSends(t, "Meet to another one", take(t, n, 9, 3, meet(2, 1, there)))
	wantSends(t, "Meet to who tells it", take(t, n, 9, 3, meet(3, 1, there)))
	stays(t, n, was, "a Meet to another one")
}

// P19.5: a Syn to it is answered, and the path is open from where it came, as by a SynAck.
func TestSyn(t *testing.T) {
	n := plain(t, 1)
	there := at(77, 7)
	wantSends(t, "Syn", n.Take(4, there, by(t, 3, wire.Msg{Kind: wire.Syn, Seq: 6, Node: 9})), raw(t, 9, there, wire.Msg{Kind: wire.SynAck, Node: 3}))
	wantSends(t, "SynAck", n.Take(5, there, by(t, 4, wire.Msg{Kind: wire.SynAck, Seq: 6, Node: 9})))
	open := []path.Path{{Peer: 3, State: 3, Addr: there, Next: 9, Until: 24}, {Peer: 4, State: 3, Addr: there, Next: 10, Until: 25}}
	wantPaths(t, n, open...)
	was := stateOf(n)
	wantSends(t, "Syn to another one", n.Take(5, home(3), by(t, 3, wire.Msg{Kind: wire.Syn, Node: 3})))
	wantSends(t, "SynAck to another one", n.Take(5, home(3), by(t, 4, wire.Msg{Kind: wire.SynAck, Node: 4})))
	for _, a := range nones() {
		wantSends(t, "Syn from nowhere", n.Take(5, a, by(t, 5, wire.Msg{Kind: wire.Syn, Node: 9})))
		wantSends(t, "SynAck from nowhere", n.Take(5, a, by(t, 5, wire.Msg{Kind: wire.SynAck, Node: 9})))
	}
	stays(t, n, was, "what opens no path")
}

// wantsNoLease: what lets a lease go.
func wantsNoLease() wire.Msg { return wire.Msg{Kind: wire.Lease} }

// P19.5: a seed grants leases while it has room, to who is at home where it came from, and lets them go; another node does neither.
func TestLease(t *testing.T) {
	n := made(t, conf(1, 1))
	there := at(77, 7)
	granted := func(yes bool) Send { return raw(t, 1, there, wire.Msg{Kind: wire.Leased, Flag: yes}) }
	for id := 2; id <= 9; id++ {
		wantSends(t, "Lease", n.Take(uint64(id), there, by(t, id, wantsLease())), granted(true))
	}
	clients := n.Clients()
	if len(clients) != api.MaxLease || clients[7] != (lease.Client{ID: 9, Addr: there, Until: 29}) {
		t.Fatalf("Clients: %v", clients)
	}
	wantSends(t, "Lease, with no room", n.Take(9, there, by(t, 10, wantsLease())), granted(false))
	wantSends(t, "Lease let go by none", n.Take(9, there, by(t, 10, wantsNoLease())))
	wantClients(t, n, clients...)
	there = at(78, 7)
	wantSends(t, "Lease again", n.Take(10, there, by(t, 9, wantsLease())), granted(true))
	clients[7] = lease.Client{ID: 9, Addr: there, Until: 30}
	wantClients(t, n, clients...)
	wantSends(t, "Lease let go", n.Take(10, there, by(t, 2, wantsNoLease())))
	wantClients(t, n, clients[1:]...)
	wantSends(t, "Lease, with room", n.Take(10, there, by(t, 10, wantsLease())), granted(true))
	wantSends(t, "Lease, with no room", n.Take(22, there, by(t, 11, wantsLease())), granted(false))
	wantSends(t, "Lease, as one is over", n.Take(23, there, by(t, 11, wantsLease())), granted(true))
	other := plain(t, 1)
	was := stateOf(other)
	wantSends(t, "Lease of no seed", other.Take(0, there, by(t, 3, wantsLease())))
	wantSends(t, "Lease of no seed", other.Take(0, there, by(t, 3, wantsNoLease())))
	other.clients.Grant(3, there, 0)
	was.clients = *other.clients
	wantSends(t, "Lease let go of no seed", other.Take(0, there, by(t, 3, wantsNoLease())))
	wantSends(t, "Keep of no seed", other.Take(5, at(1, 1), by(t, 3, keep())))
	stays(t, other, was, "a Lease of no seed")
}

// P19.5: a client that tells Keep is granted its lease anew, at where that came from; who is no client is not.
func TestKeep(t *testing.T) {
	n := made(t, conf(1, 1))
	take(t, n, 0, 3, wantsLease())
	there := at(77, 7)
	leased := raw(t, 1, there, wire.Msg{Kind: wire.Leased, Flag: true})
	wantSends(t, "Keep", n.Take(19, there, by(t, 3, keep())), leased)
	wantClients(t, n, lease.Client{ID: 3, Addr: there, Until: 39})
	was := stateOf(n)
	wantSends(t, "Keep of no client", n.Take(19, there, by(t, 4, keep())))
	wantSends(t, "Keep of a client whose time is up", n.Take(39, there, by(t, 3, keep())))
	wantSends(t, "Keep from nowhere", n.Take(20, addr.Addr{}, by(t, 3, keep())))
	stays(t, n, was, "a Keep of none")
}

// P19.5: what was asked for, and is leased, is held for a Hold; without Flag it is lost, and may be asked for at once.
func TestLeased(t *testing.T) {
	n := still(t, 1, 2)
	yes, no := wire.Msg{Kind: wire.Leased, Flag: true}, wire.Msg{Kind: wire.Leased}
	was := stateOf(n)
	wantSends(t, "Leased, not asked for", take(t, n, 0, 1, yes))
	wantSends(t, "not Leased, not asked for", take(t, n, 0, 1, no))
	stays(t, n, was, "what was not asked for")
	classed(n, false)
	n.Tick(3)
	wantSends(t, "Leased", take(t, n, 4, 1, yes))
	wantHeld(t, n, 23, 1)
	wantHeld(t, n, 24)
	wantSends(t, "Leased again", take(t, n, 5, 1, yes))
	wantHeld(t, n, 24, 1)
	wantHeld(t, n, 25)
	wantSends(t, "not Leased", take(t, n, 5, 2, no))
	wantSends(t, "Leased, no more asked for", take(t, n, 5, 2, yes))
	wantHeld(t, n, 5, 1)
	wantSends(t, "Tick", n.Tick(5), raw(t, 9, home(2), wantsLease()))
	wantSends(t, "not Leased any more", take(t, n, 6, 1, no))
	wantHeld(t, n, 6)
	wantSends(t, "Tick", n.Tick(6), raw(t, 9, home(1), wantsLease()))
}

// P19.5: who joins is told who is known, where it came from, itself too as it told so.
func TestTakeJoin(t *testing.T) {
	n := plain(t, 1)
	there := at(77, 7)
	tell(t, n, 0, 1, dead(20, 3))
	join := by(t, 3, wire.Msg{Kind: wire.Join, Seq: 5, Place: 7, News: news(suspect(3, 0), alive(4, 1))})
	wantSends(t, "Join", n.Take(0, there, join), raw(t, 9, there, wire.Msg{Kind: wire.Sync, Flag: true, News: news(alive(1, 0), suspect(3, 0), alive(4, 1), alive(9, 0), dead(20, 3))}))
	if l := n.doubt.Items(); len(l) != 1 || l[0].ID != 3 {
		t.Errorf("Items: %v", l)
	}
}

// P19.5: Sync and Leave do nothing but that their news are learned.
func TestNothingMore(t *testing.T) {
	n := plain(t, 1)
	was := stateOf(n)
	for _, m := range []wire.Msg{{Kind: wire.Sync}, {Kind: wire.Sync, Flag: true}, {Kind: wire.Sync, Seq: 5, Flag: true}, {Kind: wire.Leave}, {Kind: wire.Leave, Seq: 3}, {Kind: wire.Keep}} {
		wantSends(t, "nothing more", take(t, n, 0, 1, m))
		wantSends(t, "nothing more", take(t, n, 0, 20, m))
	}
	stays(t, n, was, "nothing more")
	var all []record.Record
	for id := 1; id <= api.MaxNodes; id++ {
		all = append(all, dead(id, 1))
	}
	wantSends(t, "Sync of all", take(t, n, 0, 1, wire.Msg{Kind: wire.Sync, News: all}))
	if l := n.View().Members(); len(l) != api.MaxNodes || n.Me() != alive(9, 2) {
		t.Errorf("Members: %v", l)
	}
	wantSends(t, "Leave", take(t, n, 0, 1, wire.Msg{Kind: wire.Leave, News: news(left(1, 1))}))
	wantKnown(t, n, left(1, 1))
}
