package node

import (
	"slices"

	"scuttlebutt/addr"
	"scuttlebutt/api"
	"scuttlebutt/wire"
)

// take does what the datagram asks for that came from there; inside of a Relay another one is bad.
func (t *turn) take(from addr.Addr, bytes string, inside bool) {
	m, e := wire.Get(bytes)
	if e != api.OK || m.From == t.config.ID || inside && m.Kind == wire.Relay {
		goto bad
	}
	if t.left {
		return
	}
	t.paths.Heard(m.From, from, t.now)
	for _, r := range m.News {
		t.learn(r, m.From)
	}
	t.deal(from, m)
	return
bad:
	t.bad++
}

// deal does what m asks for by its kind.
func (t *turn) deal(from addr.Addr, m wire.Msg) {
	switch m.Kind {
	case wire.Ping, wire.Relay, wire.Syn, wire.SynAck, wire.Meet:
		t.dealOfNode(from, m)
	case wire.PingReq:
		t.pingFor(m)
	case wire.Ack:
		t.probe, _ = t.probe.Ack(m.Seq)
		t.answerAsker(m)
	case wire.Nack:
		t.probe, _ = t.probe.Nack(m.Seq)
	case wire.Triangle:
		t.triangle(from, m)
	case wire.Seen:
		t.seen(m)
	case wire.Lease, wire.Keep:
		t.client(from, m)
	case wire.Leased:
		t.leased(m)
	case wire.Join:
		t.raw(from, wire.Msg{Kind: wire.Sync, Flag: true, News: t.view.Members()})
	}
}

// dealOfNode does what m asks its Node for, if that is this one; of another one a Relay goes on to a client.
func (t *turn) dealOfNode(from addr.Addr, m wire.Msg) {
	if m.Node != t.config.ID {
		if m.Kind == wire.Relay {
			t.passOn(m)
		}
		return
	}
	switch m.Kind {
	case wire.Relay:
		t.take(from, m.Body, true)
	case wire.Ping:
		t.ack(from, m)
	case wire.Syn:
		t.raw(from, wire.Msg{Kind: wire.SynAck, Node: m.From})
		t.paths.Open(m.From, from, t.now)
	case wire.SynAck:
		t.paths.Open(m.From, from, t.now)
	case wire.Meet:
		t.meet(m)
	}
}

// passOn sends what is in a Relay to its Node, if that is a client.
func (t *turn) passOn(m wire.Msg) {
	if a, ok := t.clients.Of(m.Node, t.now); ok {
		t.send(a, m.Body)
	}
}

// ack answers a Ping; who is known by nobody is where the Ping came from.
func (t *turn) ack(from addr.Addr, m wire.Msg) {
	answer := wire.Msg{Kind: wire.Ack, Seq: m.Seq, Place: t.config.Place, News: t.news()}
	if !t.routed(m.From, answer) {
		t.raw(from, answer)
	}
}

// pingFor pings another one for who asked for that.
func (t *turn) pingFor(m wire.Msg) {
	if m.Node == t.config.ID {
		return
	}
	t.seq++
	if len(t.asks) == mostAsks {
		t.asks = slices.Delete(t.asks, 0, 1)
	}
	t.asks = append(t.asks, ask{seq: t.seq, from: m.From, fromSeq: m.Seq, node: m.Node})
	t.routed(m.Node, wire.Msg{Kind: wire.Ping, Seq: t.seq, Node: m.Node, News: t.news()})
}

// answerAsker tells who asked for it that the other one answered.
func (t *turn) answerAsker(m wire.Msg) {
	at := slices.IndexFunc(t.asks, func(a ask) bool { return a.seq == m.Seq && a.node == m.From })
	if at < 0 {
		return
	}
	a := t.asks[at]
	t.asks = slices.Delete(t.asks, at, at+1)
	t.routed(a.from, wire.Msg{Kind: wire.Ack, Seq: a.fromSeq, Place: t.config.Place, News: t.news()})
}

// triangle tells who asks for it where it was seen, and has another one, to which it sent nothing, tell it so too.
func (t *turn) triangle(from addr.Addr, m wire.Msg) {
	if m.Flag {
		t.raw(m.Addr, wire.Msg{Kind: wire.Seen, Seq: m.Seq, Addr: m.Addr, Flag: true})
		return
	}
	t.raw(from, wire.Msg{Kind: wire.Seen, Seq: m.Seq, Addr: from})
	for _, id := range t.ring.Some(t.otherLive(m.From), 1) {
		t.routed(id, wire.Msg{Kind: wire.Triangle, Seq: m.Seq, Addr: from, Flag: true})
	}
}

// seen has it count where this node was seen, and with Flag that it was reached unasked.
func (t *turn) seen(m wire.Msg) {
	if m.Flag {
		t.reach.Heard(m.Seq)
		return
	}
	t.reach.See(m.From, m.Addr, t.now)
}

// meet tries to reach who wants a path to this node, and has it do the same.
func (t *turn) meet(m wire.Msg) {
	t.raw(m.Addr, wire.Msg{Kind: wire.Syn, Node: m.From})
	// An answer is not answered again.
	if m.Seq != 0 {
		t.relayed(m.From, wire.Msg{Kind: wire.Meet, Node: m.From, Addr: t.seenAt()})
	}
	t.paths.Want(m.From, t.now)
}

// client grants a lease, has it go on, or lets it go; only seeds have clients.
func (t *turn) client(from addr.Addr, m wire.Msg) {
	if !t.isSeed(t.config.ID) {
		return
	}
	_, is := t.clients.Of(m.From, t.now)
	switch {
	case m.Kind == wire.Keep && !is:
		return
	case m.Kind == wire.Lease && !m.Flag:
		t.clients.Release(m.From)
		return
	}
	_, e := t.clients.Grant(m.From, from, t.now)
	t.raw(from, wire.Msg{Kind: wire.Leased, Flag: e == api.OK})
}

// leased has it count that a seed granted a lease, or did not.
func (t *turn) leased(m wire.Msg) {
	if m.Flag {
		t.leases.Got(m.From, t.now+t.config.Hold, t.now)
		return
	}
	t.leases.Lost(m.From)
}
