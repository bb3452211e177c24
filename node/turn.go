package node

import (
	"scuttlebutt/addr"
	"scuttlebutt/api"
	"scuttlebutt/path"
	"scuttlebutt/queue"
	"scuttlebutt/record"
	"scuttlebutt/wire"
)

// turn is what a node does at now, and what it sends by that.
type turn struct {
	*Node
	now uint64
	out []Send
}

// send sends bytes to an address, if there is one; nothing is no datagram.
func (t *turn) send(to addr.Addr, bytes string) {
	if !to.None() && bytes != "" {
		t.out = append(t.out, Send{To: to, Bytes: bytes})
	}
}

// put answers m, as this node tells it, as a datagram; nothing, if there is none of it.
func (n *Node) put(m wire.Msg) string {
	m.From = n.config.ID
	bytes, _ := wire.Put(m)
	return bytes
}

// raw tells m to whoever is at that address.
func (t *turn) raw(to addr.Addr, m wire.Msg) { t.send(to, t.put(m)) }

// routed tells m to that one, by the direct path if there is one, and answers whether there is any way to it.
func (t *turn) routed(id int, m wire.Msg) bool {
	if p, ok := t.paths.Of(id); ok && p.State == path.Direct {
		t.raw(p.Addr, m)
		return true
	}
	return t.relayed(id, m)
}

// relayed tells m to that one as if there were no path to it, and answers whether there is any way to it.
func (t *turn) relayed(id int, m wire.Msg) bool {
	if a, ok := t.clients.Of(id, t.now); ok {
		t.raw(a, m)
		return true
	}
	r, ok := t.view.Of(id)
	if !ok || id == t.config.ID {
		return false
	}
	// Of what is no datagram there is no Relay either: its Body would be nothing.
	t.raw(r.Addr, wire.Msg{Kind: wire.Relay, Node: id, Body: t.put(m)})
	return true
}

// news answers what is told on with a datagram; it counts as told.
func (n *Node) news() []record.Record { return n.queue.Some(api.MaxPiggy) }

// tellOn has r be told with what is sent from now on.
func (n *Node) tellOn(r record.Record) {
	n.queue.Add(r, queue.Times(len(n.view.Members())))
}

// learn takes up what who told of a node.
func (t *turn) learn(r record.Record, who int) {
	if !record.Right(r) {
		return
	}
	if r.ID == t.config.ID {
		t.refute(r)
		return
	}
	turned, _ := t.view.Take(r)
	if turned {
		t.tellOn(r)
	}
	t.suspect(r, who)
	if turned {
		t.settle(r)
	}
}

// suspect has the node of r be suspected, or who confirm that, if r is what is known.
func (t *turn) suspect(r record.Record, who int) {
	known, _ := t.view.Of(r.ID)
	if r.State != record.Suspect || known.State != r.State || known.Inc != r.Inc {
		return
	}
	if t.doubt.Begin(r.ID, r.Inc, t.now, t.config.Hold) == api.ErrOld {
		t.doubt.Confirm(r.ID, r.Inc, who)
	}
}

// after answers the Inc behind inc, at most the greatest one.
func after(inc uint32) uint32 {
	if inc == api.MaxInc {
		return inc
	}
	return inc + 1
}

// settle lets go what hangs on a node of which r came to be known.
func (t *turn) settle(r record.Record) {
	switch r.State {
	case record.Alive:
		t.doubt.Clear(r.ID, r.Inc)
	case record.Dead, record.Left:
		// Of that very Inc as well: it is decided.
		t.doubt.Clear(r.ID, after(r.Inc))
		t.paths.Lost(r.ID)
		t.leases.Lost(r.ID)
	}
}

// become has this node be alive of the Inc behind inc, at that address; of the greatest one there is none behind.
func (n *Node) become(inc uint32, at addr.Addr) {
	if inc == api.MaxInc {
		return
	}
	me := record.Record{ID: n.config.ID, State: record.Alive, Inc: after(inc), Addr: at}
	n.view.Take(me)
	n.tellOn(me)
}

// refute says that this node is alive, if r says otherwise.
func (t *turn) refute(r record.Record) {
	if me := t.Me(); record.Over(r, me) {
		t.become(r.Inc, me.Addr)
	}
}

// seenAt answers the address that most saw this node at; that of its record, if nobody did.
func (t *turn) seenAt() addr.Addr {
	if a, ok := t.reach.Addr(t.now); ok {
		return a
	}
	return t.Me().Addr
}

// join tells the seeds who is known.
func (t *turn) join() {
	for _, s := range t.otherSeeds() {
		t.raw(s.Addr, wire.Msg{Kind: wire.Join, Place: t.config.Place, News: t.view.Members()})
	}
}

// leave tells all that this node is there no more.
func (t *turn) leave() {
	t.left = true
	me := t.Me()
	me.State = record.Left
	t.view.Take(me)
	for _, id := range t.otherLive() {
		t.routed(id, wire.Msg{Kind: wire.Leave, News: []record.Record{me}})
	}
}
