package node

import (
	"cmp"
	"maps"
	"math"
	"slices"
	"testing"

	"scuttlebutt/addr"
	"scuttlebutt/api"
	"scuttlebutt/draw"
	"scuttlebutt/lease"
	"scuttlebutt/path"
	"scuttlebutt/place"
	"scuttlebutt/queue"
	"scuttlebutt/record"
	"scuttlebutt/wire"
)

// dice: what scripts are drawn by.
type dice struct{ s draw.Stream }

// throw: a number below n.
func (d *dice) throw(n int) int {
	k, after := d.s.Below(n)
	d.s = after
	return k
}

// doubted: who is suspected, in a model.
type doubted struct {
	inc   uint32
	since uint64
	who   map[int]bool
}

// vote: where a model's node was seen, and when.
type vote struct {
	a  addr.Addr
	at uint64
}

// model: a node, done otherwise: all of it by hand, but draws, places and datagrams.
type model struct {
	c       Config
	known   map[int]record.Record
	told    map[int]queue.Item
	stream  draw.Stream
	ring    []int
	target  int
	probes  int // 0 idle, 1 direct, 2 indirect
	probed  uint32
	until   uint64
	doubts  map[int]doubted
	votes   map[int]vote
	rounds  []bool
	heard   map[uint32]bool // the round that is on, if one is
	clients map[int]lease.Client
	asked   map[int]uint64
	held    map[int]uint64
	paths   map[int]path.Path
	seq     uint32
	next    uint64
	gone    bool
	bad     uint64
	asks    []ask
	now     uint64
	out     []Send
}

// newModel: a model of a node that is so.
func newModel(c Config) *model {
	m := &model{c: c, known: map[int]record.Record{}, told: map[int]queue.Item{}, stream: draw.New(c.Draw), doubts: map[int]doubted{}, votes: map[int]vote{}, heard: map[uint32]bool{}, clients: map[int]lease.Client{}, asked: map[int]uint64{}, held: map[int]uint64{}, paths: map[int]path.Path{}}
	for _, s := range c.Seeds {
		m.known[s.ID] = record.Record{ID: s.ID, Addr: s.Addr}
	}
	m.known[c.ID] = record.Record{ID: c.ID, Inc: c.Inc, Addr: c.Addr}
	return m
}

func (m *model) me() record.Record { return m.known[m.c.ID] }

// seedAddr: where that seed is; none, if it is no seed.
func (m *model) seedAddr(id int) addr.Addr {
	for _, s := range m.c.Seeds {
		if s.ID == id {
			return s.Addr
		}
	}
	return addr.Addr{}
}

func (m *model) seed(id int) bool { return m.seedAddr(id) != addr.Addr{} }

// live: the IDs that are alive or suspected, but itself and those.
func (m *model) live(but ...int) []int {
	var l []int
	for id := 1; id <= 32; id++ {
		if r, ok := m.known[id]; ok && r.State < 2 && id != m.c.ID && !slices.Contains(but, id) {
			l = append(l, id)
		}
	}
	return l
}

// members: all that is known, by ID.
func (m *model) members() []record.Record {
	l := slices.Collect(maps.Values(m.known))
	slices.SortFunc(l, func(a, b record.Record) int { return a.ID - b.ID })
	return l
}

// queued: what is told on, in order.
func (m *model) queued() []queue.Item {
	l := slices.Collect(maps.Values(m.told))
	slices.SortFunc(l, func(a, b queue.Item) int { return cmp.Or(b.Left-a.Left, a.Record.ID-b.Record.ID) })
	return l
}

func (m *model) news() []record.Record {
	var l []record.Record
	for i, x := range m.queued() {
		if i == 8 {
			break
		}
		l = append(l, x.Record)
		x.Left--
		m.told[x.Record.ID] = x
		if x.Left == 0 {
			delete(m.told, x.Record.ID)
		}
	}
	return l
}

// keep: r is known, if it is over what was, and then told on.
func (m *model) keep(r record.Record, tell bool) bool {
	if old, ok := m.known[r.ID]; ok && record.Order(r, old) <= 0 {
		return false
	}
	m.known[r.ID] = r
	if tell {
		times := 0
		for n := len(m.known); n > 0; n /= 2 {
			times += 3
		}
		m.told[r.ID] = queue.Item{Record: r, Left: times}
	}
	return true
}

func (m *model) some(l []int, k int) []int {
	l, m.stream = m.stream.Some(l, k)
	return l
}

// class: 0 unknown, 1 public, 2 private.
func (m *model) class() int {
	switch {
	case m.seed(m.c.ID):
		return 1
	case len(m.rounds) < 2:
		return 0
	case m.rounds[len(m.rounds)-1] || m.rounds[len(m.rounds)-2]:
		return 1
	}
	return 2
}

// mostSeen: where most saw it lately.
func (m *model) mostSeen() (addr.Addr, bool) {
	count := map[addr.Addr]int{}
	for _, v := range m.votes {
		if v.at+m.c.Hold > m.now {
			count[v.a]++
		}
	}
	l := slices.SortedFunc(maps.Keys(count), func(a, b addr.Addr) int { return cmp.Or(count[b]-count[a], addr.Order(a, b)) })
	if len(l) == 0 {
		return addr.Addr{}, false
	}
	return l[0], true
}

func (m *model) seen() addr.Addr {
	if a, ok := m.mostSeen(); ok {
		return a
	}
	return m.me().Addr
}

func (m *model) holds(now uint64) []int {
	var l []int
	for id, until := range m.held {
		if until > now {
			l = append(l, id)
		}
	}
	slices.Sort(l)
	return l
}

func (m *model) client(id int) (addr.Addr, bool) {
	c, ok := m.clients[id]
	return c.Addr, ok && c.Until > m.now
}

// raw: sent as it is, if it is a datagram, and there is an address.
func (m *model) raw(to addr.Addr, x wire.Msg) {
	x.From = m.c.ID
	if bytes, ok := wire.Put(x); ok && to.IP != 0 && to.Port != 0 {
		m.out = append(m.out, Send{to, bytes})
	}
}

// route: sent to a node, by its path or not; is there a way?
func (m *model) route(id int, x wire.Msg, byPath bool) bool {
	x.From = m.c.ID
	bytes, _ := wire.Put(x)
	client, isClient := m.client(id)
	known, isKnown := m.known[id]
	switch p := m.paths[id]; {
	case byPath && p.State == path.Direct:
		m.raw(p.Addr, x)
	case isClient:
		m.raw(client, x)
	case isKnown:
		m.raw(known.Addr, wire.Msg{Kind: wire.Relay, Node: id, Body: bytes})
	default:
		return false
	}
	return true
}

func (m *model) learn(r record.Record, who int) {
	if r.ID == m.c.ID {
		if me := m.me(); record.Order(r, me) > 0 && r.Inc < math.MaxUint32 {
			m.keep(record.Record{ID: r.ID, Inc: r.Inc + 1, Addr: me.Addr}, true)
		}
		return
	}
	turned := m.keep(r, true)
	now := m.known[r.ID]
	d, doubts := m.doubts[r.ID]
	if r.State == 1 && now.State == 1 && r.Inc == now.Inc {
		if !doubts || d.inc < r.Inc {
			m.doubts[r.ID] = doubted{r.Inc, m.now, map[int]bool{}}
		} else if d.inc == r.Inc && who != r.ID {
			d.who[who] = true
		}
	}
	if !turned || r.State == 1 {
		return
	}
	if d, doubts := m.doubts[r.ID]; doubts && (d.inc < r.Inc || r.State >= 2 && d.inc == r.Inc && r.Inc < math.MaxUint32) {
		delete(m.doubts, r.ID)
	}
	if r.State >= 2 {
		delete(m.paths, r.ID)
		delete(m.asked, r.ID)
		delete(m.held, r.ID)
	}
}

func (m *model) join() {
	for _, s := range m.c.Seeds {
		if s.ID != m.c.ID && !m.gone {
			m.raw(s.Addr, wire.Msg{Kind: wire.Join, Place: place.Near(m.c.Place), News: m.members()})
		}
	}
}

func (m *model) leave() {
	if m.gone {
		return
	}
	m.gone = true
	me := m.me()
	me.State = 3
	m.known[me.ID] = me
	for _, id := range m.live() {
		m.route(id, wire.Msg{Kind: wire.Leave, News: news(me)}, true)
	}
}

func (m *model) tick() {
	if m.gone {
		return
	}
	for id := 1; id <= 32; id++ {
		if d, ok := m.doubts[id]; ok {
			parts := uint64(len(d.who)) + 1
			if d.since+(m.c.Hold+parts-1)/parts <= m.now {
				delete(m.doubts, id)
				m.learn(record.Record{ID: id, State: 2, Inc: d.inc, Addr: m.known[id].Addr}, 0)
			}
		}
	}
	m.tickProbe()
	round := m.next <= m.now
	if round {
		m.tickRound()
	}
	if m.class() == 2 {
		m.tickLeases(round)
	}
	m.tickPaths()
	maps.DeleteFunc(m.clients, func(_ int, c lease.Client) bool { return c.Until <= m.now })
	if m.seed(m.c.ID) {
		return
	}
	to, ok := m.mostSeen()
	if m.class() == 2 {
		held := m.holds(m.now)
		if ok = len(held) > 0; ok {
			to = m.seedAddr(held[0])
		}
	}
	if me := m.me(); m.class() != 0 && ok && to != me.Addr && me.Inc < math.MaxUint32 {
		m.keep(record.Record{ID: me.ID, Inc: me.Inc + 1, Addr: to}, true)
	}
}

func (m *model) tickProbe() {
	if m.probes == 0 || m.now < m.until {
		return
	}
	r, ok := m.known[m.target]
	if m.probes == 1 {
		m.probes, m.until = 2, m.until+m.c.Period
		for _, id := range m.some(m.live(m.target), m.c.Fan) {
			m.route(id, wire.Msg{Kind: wire.PingReq, Seq: m.probed, Node: m.target, Addr: r.Addr, News: m.news()}, true)
		}
		return
	}
	m.probes = 0
	if ok && r.State == 0 {
		r.State = 1
		m.learn(r, m.c.ID)
	}
}

func (m *model) tickRound() {
	m.next = m.now + m.c.Period
	for _, heard := range m.heard {
		m.rounds = append(m.rounds, heard)
	}
	m.seq++
	m.heard = map[uint32]bool{m.seq: false}
	var ids []int
	for _, s := range m.c.Seeds {
		if s.ID != m.c.ID {
			ids = append(ids, s.ID)
		}
	}
	for _, id := range m.some(ids, 1) {
		m.raw(m.seedAddr(id), wire.Msg{Kind: wire.Triangle, Seq: m.seq, Addr: m.me().Addr})
	}
	live := m.live()
	if m.probes != 0 || len(live) == 0 {
		return
	}
	for {
		if len(m.ring) == 0 {
			m.ring, m.stream = m.stream.Mix(live)
		}
		id := m.ring[0]
		m.ring = m.ring[1:]
		if slices.Contains(live, id) {
			m.seq++
			m.probes, m.target, m.probed, m.until = 1, id, m.seq, m.now+m.c.Period
			m.route(id, wire.Msg{Kind: wire.Ping, Seq: m.seq, Node: id, News: m.news()}, true)
			m.want(id, !m.seed(id))
			return
		}
	}
}

// want: a path is tried from now on, if none is there.
func (m *model) want(id int, wanted bool) {
	if _, ok := m.paths[id]; !ok && wanted {
		m.paths[id] = path.Path{Peer: id, State: path.Trying, Next: m.now}
	}
}

func (m *model) tickLeases(round bool) {
	for id, until := range m.held {
		if until <= m.now {
			delete(m.held, id)
			delete(m.asked, id)
		}
	}
	live := m.live()
	var may []Seed
	for _, s := range m.c.Seeds {
		at, asked := m.asked[s.ID]
		_, held := m.held[s.ID]
		if slices.Contains(live, s.ID) && !held && !(asked && at+m.c.Period > m.now) {
			may = append(may, s)
		}
	}
	slices.SortStableFunc(may, func(a, b Seed) int {
		return cmp.Compare(place.Far(a.Place, m.c.Place), place.Far(b.Place, m.c.Place))
	})
	for i, s := range may {
		if i >= 2-len(m.held) {
			break
		}
		m.asked[s.ID] = m.now
		m.raw(s.Addr, wire.Msg{Kind: wire.Lease, Flag: true})
	}
	for _, id := range m.holds(m.now) {
		if round {
			m.raw(m.seedAddr(id), wire.Msg{Kind: wire.Keep})
		}
	}
}

func (m *model) tickPaths() {
	for id := 1; id <= 32; id++ {
		p, ok := m.paths[id]
		if !ok || p.Next > m.now {
			continue
		}
		switch {
		case p.State == path.Direct && p.Until > m.now:
			p.Next = m.now + m.c.Period
			m.raw(p.Addr, wire.Msg{Kind: wire.Keep})
		case p.State == path.Trying && p.Tries == 3:
			p.State, p.Next = path.Relayed, m.now+m.c.Hold
		default:
			if p.State != path.Trying {
				p = path.Path{Peer: id, State: path.Trying}
			}
			p.Next = m.now + m.c.Period*[]uint64{1, 2, 4}[p.Tries]
			p.Tries++
			m.route(id, wire.Msg{Kind: wire.Meet, Seq: 1, Node: id, Addr: m.seen()}, false)
		}
		m.paths[id] = p
	}
}

func (m *model) take(from addr.Addr, bytes string, inside bool) {
	x, e := wire.Get(bytes)
	if e != api.OK || x.From == m.c.ID || x.Kind == wire.Relay && inside {
		m.bad++
		return
	}
	if m.gone {
		return
	}
	if p, ok := m.paths[x.From]; ok && p.State == path.Direct && p.Addr == from {
		p.Until = m.now + m.c.Hold
		m.paths[x.From] = p
	}
	for _, r := range x.News {
		m.learn(r, x.From)
	}
	mine := x.Node == m.c.ID
	switch x.Kind {
	case wire.Relay:
		if mine {
			m.take(from, x.Body, true)
		} else if a, ok := m.client(x.Node); ok {
			m.out = append(m.out, Send{a, x.Body})
		}
	case wire.Ping:
		if mine {
			a := wire.Msg{Kind: wire.Ack, Seq: x.Seq, Place: place.Near(m.c.Place), News: m.news()}
			if !m.route(x.From, a, true) {
				m.raw(from, a)
			}
		}
	case wire.PingReq:
		if !mine {
			m.seq++
			m.asks = append(m.asks, ask{m.seq, x.From, x.Seq, x.Node})
			m.asks = m.asks[max(0, len(m.asks)-8):]
			m.route(x.Node, wire.Msg{Kind: wire.Ping, Seq: m.seq, Node: x.Node, News: m.news()}, true)
		}
	case wire.Ack:
		if m.probes != 0 && m.probed == x.Seq {
			m.probes = 0
		}
		for i, a := range m.asks {
			if a.seq == x.Seq && a.node == x.From {
				m.asks = slices.Concat(m.asks[:i], m.asks[i+1:])
				m.route(a.from, wire.Msg{Kind: wire.Ack, Seq: a.fromSeq, Place: place.Near(m.c.Place), News: m.news()}, true)
				break
			}
		}
	case wire.Triangle, wire.Seen:
		m.takeReach(from, x)
	case wire.Meet, wire.Syn, wire.SynAck:
		if mine {
			m.takePath(from, x)
		}
	case wire.Lease, wire.Keep, wire.Leased:
		m.takeLease(from, x)
	case wire.Join:
		m.raw(from, wire.Msg{Kind: wire.Sync, Flag: true, News: m.members()})
	}
}

func (m *model) takeReach(from addr.Addr, x wire.Msg) {
	switch {
	case x.Kind == wire.Triangle && x.Flag:
		m.raw(x.Addr, wire.Msg{Kind: wire.Seen, Seq: x.Seq, Addr: x.Addr, Flag: true})
	case x.Kind == wire.Triangle:
		m.raw(from, wire.Msg{Kind: wire.Seen, Seq: x.Seq, Addr: from})
		for _, id := range m.some(m.live(x.From), 1) {
			m.route(id, wire.Msg{Kind: wire.Triangle, Seq: x.Seq, Addr: from, Flag: true}, true)
		}
	case x.Flag:
		if _, on := m.heard[x.Seq]; on {
			m.heard[x.Seq] = true
		}
	default:
		m.votes[x.From] = vote{x.Addr, m.now}
	}
}

func (m *model) takePath(from addr.Addr, x wire.Msg) {
	switch x.Kind {
	case wire.Meet:
		m.raw(x.Addr, wire.Msg{Kind: wire.Syn, Node: x.From})
		if x.Seq != 0 {
			m.route(x.From, wire.Msg{Kind: wire.Meet, Node: x.From, Addr: m.seen()}, false)
		}
		m.want(x.From, true)
		return
	case wire.Syn:
		m.raw(from, wire.Msg{Kind: wire.SynAck, Node: x.From})
	}
	if from.IP != 0 && from.Port != 0 {
		m.paths[x.From] = path.Path{Peer: x.From, State: path.Direct, Addr: from, Next: m.now + m.c.Period, Until: m.now + m.c.Hold}
	}
}

func (m *model) takeLease(from addr.Addr, x wire.Msg) {
	if x.Kind == wire.Leased {
		if _, asked := m.asked[x.From]; asked && x.Flag {
			m.held[x.From] = min(m.now+m.c.Hold, 1<<62)
		} else if asked {
			delete(m.asked, x.From)
			delete(m.held, x.From)
		}
		return
	}
	_, is := m.client(x.From)
	if !m.seed(m.c.ID) || x.Kind == wire.Keep && !is {
		return
	}
	if x.Kind == wire.Lease && !x.Flag {
		delete(m.clients, x.From)
		return
	}
	if from.IP == 0 || from.Port == 0 {
		return
	}
	maps.DeleteFunc(m.clients, func(_ int, c lease.Client) bool { return c.Until <= m.now })
	_, is = m.clients[x.From]
	room := is || len(m.clients) < 8
	if room {
		m.clients[x.From] = lease.Client{ID: x.From, Addr: from, Until: m.now + m.c.Hold}
	}
	m.raw(from, wire.Msg{Kind: wire.Leased, Flag: room})
}

// do: what the model sends by f, at now.
func (m *model) do(now uint64, f func()) []Send {
	m.now, m.out = now, nil
	if now <= 1<<62 {
		f()
	}
	return m.out
}

// flying: a datagram under way.
type flying struct {
	from, to addr.Addr
	bytes    string
}

// world: some nodes, their models, and what is under way between them. Odd nodes that are no seeds stand behind boxes.
type world struct {
	t       *testing.T
	dice    dice
	now     uint64
	confs   []Config // by ID
	nodes   []*Node
	models  []*model
	boxes   []int               // how often the box of each began anew
	opened  []map[addr.Addr]int // whom each sent to from behind its box, as it is now
	flights []flying
	did     map[int]int // how often a datagram of that kind arrived
	shown   map[string]int
}

// newWorld: so many nodes, of which the first ones are seeds.
func newWorld(t *testing.T, seed uint64, count, seeds int) *world {
	w := &world{t: t, dice: dice{draw.New(seed)}, did: map[int]int{}, shown: map[string]int{}}
	var ids []int
	for id := 1; id <= seeds; id++ {
		ids = append(ids, id)
	}
	ids, _ = w.dice.s.Mix(ids)
	fan, period := 1+w.dice.throw(4), uint64(2+w.dice.throw(4))
	for id := range count + 1 {
		c := Config{ID: id, Addr: home(id), Place: complex(float64(w.dice.throw(9)), float64(w.dice.throw(9))), Draw: seed + uint64(id), Seeds: seedsOf(ids...), Period: period, Hold: period * uint64(2+w.dice.throw(8)), Fan: fan}
		if id > seeds && id%2 == 1 {
			c.Addr = at(10<<24+uint32(id), 7000)
		}
		n, _ := New(c)
		w.confs, w.nodes, w.models = append(w.confs, c), append(w.nodes, n), append(w.models, newModel(c))
		w.boxes, w.opened = append(w.boxes, 0), append(w.opened, map[addr.Addr]int{})
	}
	return w
}

// boxed: does that one stand behind a box?
func (w *world) boxed(id int) bool { return w.confs[id].Addr != home(id) }

// outside: where that one is seen.
func (w *world) outside(id int) addr.Addr {
	if w.boxed(id) {
		return at(9<<24+uint32(id), uint16(1000+w.boxes[id]))
	}
	return home(id)
}

// arrives: whom a datagram comes to; 0, if to nobody.
func (w *world) arrives(f flying) int {
	for id := 1; id < len(w.nodes); id++ {
		if f.to == w.outside(id) && (!w.boxed(id) || w.opened[id][f.from] > 0 || w.confs[1].Fan == 4) {
			return id
		}
	}
	return 0
}

// went: what node id sent must be what its model did, and is under way; and both must be in the same state.
func (w *world) went(id int, what string, got, want []Send) {
	w.t.Helper()
	wantSends(w.t, what, got, want...)
	n, m := w.nodes[id], w.models[id]
	same := slices.Equal(n.View().Members(), m.members()) && slices.Equal(n.Queue(), m.queued()) && n.Me() == m.me() && n.Bad() == m.bad && n.Class() == m.class()
	same = same && slices.Equal(n.Held(w.now), m.holds(w.now)) && byID(n.Paths(), m.paths, func(p path.Path) int { return p.Peer }) && byID(n.Clients(), m.clients, func(c lease.Client) int { return c.ID })
	if !same || n.seq != m.seq || n.ring.State() != m.stream.State || len(n.asks) != len(m.asks) {
		w.t.Errorf("node %d: %+v\nmodel: %+v", id, stateOf(n), m)
	}
	if w.t.Failed() {
		w.t.Fatalf("%s of node %d at %d", what, id, w.now)
	}
	for _, s := range got {
		w.flights = append(w.flights, flying{w.outside(id), s.To, s.Bytes})
		w.opened[id][s.To]++
	}
	if len(w.flights) > 200 {
		w.flights = w.flights[len(w.flights)-200:]
	}
}

// byID: does the list hold just what the map does, by ID, rising?
func byID[T comparable](l []T, m map[int]T, id func(x T) int) bool {
	return len(l) == len(m) && slices.IsSortedFunc(l, func(a, b T) int { return id(a) - id(b) }) && !slices.ContainsFunc(l, func(x T) bool { return m[id(x)] != x })
}

func (w *world) tick(id int) {
	m := w.models[id]
	w.went(id, "Tick", w.nodes[id].Tick(w.now), m.do(w.now, m.tick))
}

func (w *world) join(id int) {
	m := w.models[id]
	w.went(id, "Join", w.nodes[id].Join(w.now), m.do(w.now, m.join))
}

func (w *world) leave(id int) {
	m := w.models[id]
	w.went(id, "Leave", w.nodes[id].Leave(w.now), m.do(w.now, m.leave))
}

func (w *world) take(id int, from addr.Addr, bytes string) {
	x, _ := wire.Get(bytes)
	w.did[x.Kind]++
	m, n := w.models[id], w.nodes[id]
	was, bad, before := n.View().Members(), n.Bad(), n.Me()
	w.went(id, "Take", n.Take(w.now, from, bytes), m.do(w.now, func() { m.take(from, bytes, false) }))
	w.rises(id, was, before)
	if n.Bad() < bad || n.Bad() > bad+1 {
		w.t.Fatalf("Bad: %d, was %d", n.Bad(), bad)
	}
}

// rises: P19.7: what is known only rises; who is alive in an Inc told so, or is told of by who does.
func (w *world) rises(id int, was []record.Record, me record.Record) {
	w.t.Helper()
	for _, r := range was {
		now, ok := w.nodes[id].View().Of(r.ID)
		if !ok || record.Order(now, r) < 0 {
			w.t.Fatalf("node %d knew %v, knows %v", id, r, now)
		}
	}
	if now := w.nodes[id].Me(); now != me && now.Inc <= me.Inc {
		w.t.Fatalf("node %d was %v, is %v", id, me, now)
	}
}

// hostile: a datagram that nobody was to tell.
func (w *world) hostile(depth int) string {
	d := &w.dice
	if d.throw(12) == 0 {
		return "no datagram"[:d.throw(12)]
	}
	m := wire.Msg{Kind: 1 + d.throw(16), From: 1 + d.throw(len(w.nodes)+1), Seq: uint32(d.throw(3))}
	has, _ := wire.Has(m.Kind)
	for _, c := range has {
		switch c {
		case 'n':
			m.Node = 1 + d.throw(len(w.nodes)+1)
		case 'a':
			m.Addr = w.anyAddr()
		case 'p':
			m.Place = complex(float64(d.throw(5)), 1)
		case 'f':
			m.Flag = d.throw(2) == 0
		case 'b':
			m.Body = "x"
			if depth < 2 {
				m.Body += w.hostile(depth + 1)
				m.Body = m.Body[min(1, len(m.Body)-1):]
			}
		case 'r':
			for range d.throw(4) {
				m.News = append(m.News, w.anyRecord())
			}
		}
	}
	bytes, _ := wire.Put(m)
	return bytes
}

// anyAddr: an address that somebody may have had.
func (w *world) anyAddr() addr.Addr {
	id := 1 + w.dice.throw(len(w.nodes)-1)
	return []addr.Addr{home(id), w.outside(id), at(10<<24+uint32(id), 7000), at(77, 7)}[w.dice.throw(4)]
}

// anyRecord: what somebody might say of a node, mostly near to what one knows.
func (w *world) anyRecord() record.Record {
	d := &w.dice
	r := record.Record{ID: 1 + d.throw(len(w.nodes)+1), State: d.throw(4), Inc: uint32(d.throw(4)), Addr: w.anyAddr()}
	if known, ok := w.nodes[1+d.throw(len(w.nodes)-1)].View().Of(r.ID); ok {
		r.Inc = known.Inc + uint32(d.throw(2))
	}
	if d.throw(300) == 0 {
		r.Inc = math.MaxUint32 - uint32(d.throw(2))
	}
	return r
}

// deliver: one of what is under way comes, or is lost; sometimes it goes on being under way.
func (w *world) deliver() {
	if len(w.flights) == 0 {
		return
	}
	k := w.dice.throw(len(w.flights))
	f := w.flights[k]
	if w.dice.throw(20) > 0 {
		w.flights = slices.Delete(w.flights, k, k+1)
	}
	if id := w.arrives(f); id != 0 && w.dice.throw(30) > 0 {
		w.take(id, f.from, f.bytes)
	}
}

// again: a node is there anew, in an Inc above that which it had.
func (w *world) again(id int) {
	c := w.confs[id]
	c.Inc = w.nodes[id].Me().Inc
	if c.Inc < math.MaxUint32 {
		c.Inc++
		w.nodes[id], _ = New(c)
		w.models[id] = newModel(c)
	}
}

// step: something that happens.
func (w *world) step() {
	id := 1 + w.dice.throw(len(w.nodes)-1)
	switch x := w.dice.throw(1000); {
	case x < 600:
		w.deliver()
	case x < 890:
		w.now += uint64(w.dice.throw(12) / 11)
		w.tick(id)
	case x < 940:
		from := w.anyAddr()
		if w.dice.throw(10) == 0 {
			from = addr.Addr{}
		}
		w.take(id, from, w.hostile(0))
	case x < 970:
		w.join(id)
	case x < 980:
		w.boxes[id]++
		w.opened[id] = map[addr.Addr]int{}
	case x < 985:
		w.again(id)
	case x < 987:
		w.leave(id)
	case x < 990 && len(w.flights) > 0:
		w.flights = w.flights[w.dice.throw(len(w.flights)):]
	case x < 991:
		w.now -= min(w.now, uint64(w.dice.throw(20)))
	}
	w.show()
}

// show: what is seen in the world now and again; a script that never shows it would test little.
func (w *world) show() {
	for _, n := range w.nodes[1:] {
		w.shown[[]string{"unknown", "public", "private"}[n.Class()]]++
		for _, p := range n.Paths() {
			w.shown[[]string{"", "relayed", "trying", "direct"}[p.State]]++
		}
		for _, r := range n.View().Members() {
			w.shown[record.Word(r.State)]++
		}
		if len(n.Held(w.now)) > 0 {
			w.shown["held"]++
		}
		if n.Me().Addr != n.config.Addr {
			w.shown["rebound"]++
		}
		w.shown["clients"] += len(n.Clients())
	}
}

// P19.2 to P19.7: drawn scripts, each node held against a model done otherwise.
func TestScripts(t *testing.T) {
	did, shown := map[int]int{}, map[string]int{}
	for seed := range uint64(60) {
		w := newWorld(t, seed, 2+int(seed%11), 1+int(seed%4)%2+int(seed/20))
		if seed%9 == 8 {
			w.now = 1<<62 - 30
		}
		for range 1500 {
			w.step()
		}
		for k, n := range w.did {
			did[k] += n
		}
		for k, n := range w.shown {
			shown[k] += n
		}
	}
	t.Log(did, shown)
	for kind := 1; kind <= 16; kind++ {
		if did[kind] < 100 {
			t.Errorf("kind %d arrived but %d times", kind, did[kind])
		}
	}
	for _, what := range []string{"unknown", "public", "private", "relayed", "trying", "direct", "alive", "suspect", "dead", "left", "held", "rebound", "clients"} {
		if shown[what] < 1000 {
			t.Errorf("%s was seen but %d times", what, shown[what])
		}
	}
}
