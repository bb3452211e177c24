package node

import (
	"slices"

	"scuttlebutt/addr"
	"scuttlebutt/path"
	"scuttlebutt/probe"
	"scuttlebutt/reach"
	"scuttlebutt/record"
	"scuttlebutt/wire"
)

// tick does all that is to be done at now, in the chapter's order.
func (t *turn) tick() {
	seed := t.isSeed(t.config.ID)
	t.bury()
	t.goOnProbing()
	round := t.next <= t.now
	if round {
		t.round()
	}
	if !seed && t.Class() == reach.Private {
		t.goOnLeasing(round)
	}
	t.goOnPaths()
	t.clients.Sweep(t.now)
	if !seed {
		t.rebound()
	}
}

// bury has those be dead who were suspected for too long.
func (t *turn) bury() {
	for _, x := range t.doubt.Due(t.now) {
		known, _ := t.view.Of(x.ID)
		t.learn(record.Record{ID: x.ID, State: record.Dead, Inc: x.Inc, Addr: known.Addr}, 0)
	}
}

// goOnProbing has others ask who did not answer, and has it be suspected if they had no answer either.
func (t *turn) goOnProbing() {
	// As it was: an end clears whom it was of.
	target, seq := t.probe.Target, t.probe.Seq
	tells := 0
	t.probe, tells = t.probe.Tick(t.now)
	known, ok := t.view.Of(target)
	switch {
	case tells == probe.Ask:
		for _, id := range t.ring.Some(t.otherLive(target), t.config.Fan) {
			t.routed(id, wire.Msg{Kind: wire.PingReq, Seq: seq, Node: target, Addr: known.Addr, News: t.news()})
		}
	case tells == probe.Fail && ok && known.State == record.Alive:
		known.State = record.Suspect
		t.learn(known, t.config.ID)
	}
}

// round does what is done once in a period.
func (t *turn) round() {
	t.next = t.now + t.config.Period
	t.reach.End()
	t.seq++
	t.reach.Round(t.seq, t.now)
	t.askToBeReached()
	if t.probe.Stage == probe.Idle {
		t.probeNext()
	}
}

// askToBeReached asks a seed that another node, to which this one sent nothing, sends something here.
func (t *turn) askToBeReached() {
	var ids []int
	for _, s := range t.otherSeeds() {
		ids = append(ids, s.ID)
	}
	for _, id := range t.ring.Some(ids, 1) {
		s, _ := t.seed(id)
		t.raw(s.Addr, wire.Msg{Kind: wire.Triangle, Seq: t.seq, Addr: t.Me().Addr})
	}
}

// probeNext begins to probe the next one, and has a path to it be wanted: seeds are reached without one.
func (t *turn) probeNext() {
	target, ok := t.ring.Next(t.otherLive())
	if !ok {
		return
	}
	t.seq++
	t.probe, _ = t.probe.Start(target, t.seq, t.now)
	t.routed(target, wire.Msg{Kind: wire.Ping, Seq: t.seq, Node: target, News: t.news()})
	if !t.isSeed(target) {
		t.paths.Want(target, t.now)
	}
}

// goOnLeasing asks for the leases that are missing and, once in a round, keeps those that are held.
func (t *turn) goOnLeasing(round bool) {
	t.leases.Sweep(t.now)
	live := t.view.Live()
	var ids []int
	var places []complex128
	for _, s := range t.otherSeeds() {
		if slices.Contains(live, s.ID) {
			ids, places = append(ids, s.ID), append(places, s.Place)
		}
	}
	t.toSeeds(t.leases.Ask(t.now, t.config.Place, ids, places), wire.Msg{Kind: wire.Lease, Flag: true})
	if round {
		t.toSeeds(t.Held(t.now), wire.Msg{Kind: wire.Keep})
	}
}

// toSeeds tells m to the seeds of those IDs.
func (t *turn) toSeeds(ids []int, m wire.Msg) {
	for _, id := range ids {
		s, _ := t.seed(id)
		t.raw(s.Addr, m)
	}
}

// goOnPaths tries the paths that are to be tried, and keeps those that are direct.
func (t *turn) goOnPaths() {
	for _, step := range t.paths.Due(t.now) {
		switch step.Kind {
		case path.Syn:
			t.relayed(step.Peer, wire.Msg{Kind: wire.Meet, Seq: 1, Node: step.Peer, Addr: t.seenAt()})
		case path.Keep:
			p, _ := t.paths.Of(step.Peer)
			t.raw(p.Addr, wire.Msg{Kind: wire.Keep})
		}
	}
}

// reachedAt answers where others reach this node, if that is known.
func (t *turn) reachedAt() (addr.Addr, bool) {
	switch t.Class() {
	case reach.Public:
		return t.reach.Addr(t.now)
	case reach.Private:
		if held := t.Held(t.now); len(held) > 0 {
			s, ok := t.seed(held[0])
			return s.Addr, ok
		}
	}
	return addr.Addr{}, false
}

// rebound says anew where this node is, if that is another address than it told.
func (t *turn) rebound() {
	me := t.Me()
	if a, ok := t.reachedAt(); ok && a != me.Addr {
		t.become(me.Inc, a)
	}
}
