package node

import (
	"math"
	"reflect"
	"slices"
	"testing"

	"scuttlebutt/addr"
	"scuttlebutt/api"
	"scuttlebutt/doubt"
	"scuttlebutt/lease"
	"scuttlebutt/path"
	"scuttlebutt/probe"
	"scuttlebutt/queue"
	"scuttlebutt/reach"
	"scuttlebutt/record"
	"scuttlebutt/view"
	"scuttlebutt/wire"
)

// notIDs: numbers that no node has.
func notIDs() []int {
	return []int{0, -1, -2, -32, -33, 33, 34, 64, 255, 256, 257, 1 << 32, 1<<32 + 1, math.MaxInt64, math.MinInt64, math.MinInt64 + 1}
}

// notNows: times at which nothing is done.
func notNows() []uint64 {
	return []uint64{1<<62 + 1, 1<<62 + 2, 1<<62 + 1000001, 1 << 63, 1<<63 + 1, math.MaxUint64 - 1000000, math.MaxUint64}
}

// notPlaces: places that are not right.
func notPlaces() []complex128 {
	nan, inf, most := math.NaN(), math.Inf(1), 1000001.0
	return []complex128{0.5, 0.5i, 1e-300i, complex(most, 0), complex(-most, 0), complex(0, most), complex(0, -most), complex(nan, 0), complex(0, nan), complex(inf, 0), complex(0, -inf), 1e300}
}

// at: an address.
func at(ip uint32, port uint16) addr.Addr { return addr.Addr{IP: ip, Port: port} }

// nones: addresses that lead nowhere.
func nones() []addr.Addr {
	return []addr.Addr{{}, at(0, 1), at(0, 65535), at(1, 0), at(1<<24, 0), at(math.MaxUint32, 0)}
}

// home: where the node of that ID is.
func home(id int) addr.Addr { return at(5<<24+uint32(id), 7000) }

// site: where in the plane it is.
func site(id int) complex128 { return complex(float64(id), float64(-id)) }

// seedsOf: these as seeds.
func seedsOf(ids ...int) []Seed {
	var l []Seed
	for _, id := range ids {
		l = append(l, Seed{ID: id, Addr: home(id), Place: site(id)})
	}
	return l
}

// conf: how a node is to be, to which these are seeds.
func conf(id int, seeds ...int) Config {
	return Config{ID: id, Addr: home(id), Place: site(id), Draw: uint64(id), Seeds: seedsOf(seeds...), Period: 5, Hold: 20, Fan: 2}
}

// made: a node, as it is at first.
func made(t *testing.T, c Config) *Node {
	t.Helper()
	n, e := New(c)
	if n == nil || e != api.OK {
		t.Fatalf("New(%v): %v, %d", c, n, e)
	}
	return n
}

// plain: node 9, to which these are seeds.
func plain(t *testing.T, seeds ...int) *Node {
	t.Helper()
	return made(t, conf(9, seeds...))
}

// What is known of a node at home.
func alive(id int, inc uint32) record.Record {
	return record.Record{ID: id, State: 0, Inc: inc, Addr: home(id)}
}
func suspect(id int, inc uint32) record.Record {
	return record.Record{ID: id, State: 1, Inc: inc, Addr: home(id)}
}
func dead(id int, inc uint32) record.Record {
	return record.Record{ID: id, State: 2, Inc: inc, Addr: home(id)}
}
func left(id int, inc uint32) record.Record {
	return record.Record{ID: id, State: 3, Inc: inc, Addr: home(id)}
}

// moved: r, at another address.
func moved(r record.Record, a addr.Addr) record.Record {
	r.Addr = a
	return r
}

// news: these records.
func news(l ...record.Record) []record.Record { return l }

// by: m as from tells it, as a datagram.
func by(t *testing.T, from int, m wire.Msg) string {
	t.Helper()
	m.From = from
	s, ok := wire.Put(m)
	if !ok {
		t.Fatalf("no datagram: %+v", m)
	}
	return s
}

// raw: m, as from sends it to an address.
func raw(t *testing.T, from int, to addr.Addr, m wire.Msg) Send {
	t.Helper()
	return Send{To: to, Bytes: by(t, from, m)}
}

// relayed: m, as from sends it in a Relay to an address, for node.
func relayed(t *testing.T, from int, to addr.Addr, node int, m wire.Msg) Send {
	t.Helper()
	return raw(t, from, to, wire.Msg{Kind: wire.Relay, Node: node, Body: by(t, from, m)})
}

// toHome: m, as from sends it to node where it is at home, in a Relay.
func toHome(t *testing.T, from, node int, m wire.Msg) Send {
	t.Helper()
	return relayed(t, from, home(node), node, m)
}

// words: what a Send is, to be read.
func words(s Send) []any {
	m, _ := wire.Get(s.Bytes)
	l := []any{s.To.Text(), m}
	if m.Kind == wire.Relay {
		inner, _ := wire.Get(m.Body)
		l = append(l, inner)
	}
	return l
}

// wantSends: these must have been sent, in this order.
func wantSends(t *testing.T, what string, got []Send, want ...Send) {
	t.Helper()
	if len(got) == 0 && len(want) == 0 || slices.Equal(got, want) {
		return
	}
	t.Errorf("%s sent %d, want %d:", what, len(got), len(want))
	for _, s := range got {
		t.Error("  sent:", words(s))
	}
	for _, s := range want {
		t.Error("  want:", words(s))
	}
}

// take: what n sends when m comes, told by from, from where it is at home.
func take(t *testing.T, n *Node, now uint64, from int, m wire.Msg) []Send {
	t.Helper()
	return n.Take(now, home(from), by(t, from, m))
}

// tell: n learns these, told by from.
func tell(t *testing.T, n *Node, now uint64, from int, l ...record.Record) {
	t.Helper()
	bad := n.Bad()
	wantSends(t, "Take of a Leave", take(t, n, now, from, wire.Msg{Kind: wire.Leave, News: l}))
	if n.Bad() != bad {
		t.Fatalf("Take of news of %v is bad", l)
	}
}

// state: all that a node is.
type state struct {
	members, queued any
	events          []view.Event
	seen            uint64
	ringLeft        []int
	ringState       uint64
	probe           probe.Probe
	doubts          []doubt.Item
	reach           reach.Reach
	clients         lease.Table
	leases          lease.Leases
	paths           path.Table
	seq             uint32
	next            uint64
	left            bool
	bad             uint64
	asks            []ask
}

// stateOf: all that n is, of its own memory.
func stateOf(n *Node) state {
	return state{n.view.Members(), n.queue.Items(), n.view.Events(), n.view.Seen(), n.ring.Left(), n.ring.State(), n.probe, n.doubt.Items(), *n.reach, *n.clients, *n.leases, *n.paths, n.seq, n.next, n.left, n.bad, slices.Clone(n.asks)}
}

// stays: n must be what it was.
func stays(t *testing.T, n *Node, was state, what ...any) {
	t.Helper()
	if now := stateOf(n); !reflect.DeepEqual(now, was) {
		t.Fatalf("%v changed something: %v, was %v", what, now, was)
	}
}

// wantMe: that must be its own record.
func wantMe(t *testing.T, n *Node, want record.Record) {
	t.Helper()
	if me := n.Me(); me != want {
		t.Errorf("Me: %v, want %v", me, want)
	}
	if r, ok := n.View().Of(want.ID); !ok || r != want {
		t.Errorf("Of(%d): %v, %v, want %v", want.ID, r, ok, want)
	}
}

// wantKnown: that must be known of its node.
func wantKnown(t *testing.T, n *Node, want record.Record) {
	t.Helper()
	if r, ok := n.View().Of(want.ID); !ok || r != want {
		t.Errorf("Of(%d): %v, %v, want %v", want.ID, r, ok, want)
	}
}

// wantQueue: that must be told on.
func wantQueue(t *testing.T, n *Node, want ...queue.Item) {
	t.Helper()
	if l := n.Queue(); !slices.Equal(l, want) {
		t.Errorf("Queue: %v, want %v", l, want)
	}
}

// wantPaths: those must be the paths.
func wantPaths(t *testing.T, n *Node, want ...path.Path) {
	t.Helper()
	if l := n.Paths(); !slices.Equal(l, want) {
		t.Errorf("Paths: %v, want %v", l, want)
	}
}

// wantClients: those must be the clients.
func wantClients(t *testing.T, n *Node, want ...lease.Client) {
	t.Helper()
	if l := n.Clients(); !slices.Equal(l, want) {
		t.Errorf("Clients: %v, want %v", l, want)
	}
}

// wantHeld: those leases must be held.
func wantHeld(t *testing.T, n *Node, now uint64, want ...int) {
	t.Helper()
	if l := n.Held(now); !slices.Equal(l, want) {
		t.Errorf("Held(%d): %v, want %v", now, l, want)
	}
}

// mayBe: edits of a Config that is right, behind which it is right still.
func mayBe() []func(c *Config) {
	minus := math.Copysign(0, -1)
	return []func(c *Config){
		func(c *Config) {},
		func(c *Config) { c.ID = 1 },
		func(c *Config) { c.ID = 2 },
		func(c *Config) { c.ID = 32 },
		func(c *Config) { c.Addr = at(1, 1) },
		func(c *Config) { c.Addr = at(math.MaxUint32, 65535) },
		func(c *Config) { c.Addr = c.Seeds[0].Addr },
		func(c *Config) { c.Place = 0 },
		func(c *Config) { c.Place = complex(minus, minus) },
		func(c *Config) { c.Place = 1000000 - 1000000i },
		func(c *Config) { c.Draw = math.MaxUint64 },
		func(c *Config) { c.Inc = math.MaxUint32 },
		func(c *Config) { c.Seeds = seedsOf(1) },
		func(c *Config) { c.Seeds = seedsOf(32) },
		func(c *Config) { c.Seeds = seedsOf(9) },
		func(c *Config) { c.Seeds = seedsOf(8, 7, 6, 5, 4, 3, 2, 1) },
		func(c *Config) { c.Seeds[0].Place = complex(minus, minus) },
		func(c *Config) { c.Seeds[1].Addr = c.Seeds[0].Addr },
		func(c *Config) { c.Seeds[1].Place = c.Seeds[0].Place },
		func(c *Config) { c.Seeds[1].Place = -1000000 + 1000000i },
		func(c *Config) { c.Period = 2 },
		func(c *Config) { c.Period, c.Hold = 2, 2 },
		func(c *Config) { c.Period, c.Hold = 1000, 1000 },
		func(c *Config) { c.Hold = 5 },
		func(c *Config) { c.Hold = 100000 },
		func(c *Config) { c.Fan = 1 },
		func(c *Config) { c.Fan = 4 },
	}
}

// mayNotBe: edits of a Config that is right, behind which it is not.
func mayNotBe() []func(c *Config) {
	l := []func(c *Config){
		func(c *Config) { *c = Config{} },
		func(c *Config) { c.Seeds = nil },
		func(c *Config) { c.Seeds = []Seed{} },
		func(c *Config) { c.Seeds = seedsOf(9, 8, 7, 6, 5, 4, 3, 2, 1) },
		func(c *Config) { c.Seeds = seedsOf(1, 1) },
		func(c *Config) { c.Seeds = seedsOf(1, 2, 3, 4, 5, 6, 7, 1) },
		func(c *Config) { c.Seeds = seedsOf(9, 3, 9) },
		func(c *Config) { c.Seeds = append(c.Seeds, Seed{}) },
		func(c *Config) { c.Seeds = make([]Seed, 1<<20) },
	}
	for _, id := range notIDs() {
		l = append(l, func(c *Config) { c.ID = id }, func(c *Config) { c.Seeds[0].ID = id }, func(c *Config) { c.Seeds[1].ID = id })
	}
	for _, a := range nones() {
		l = append(l, func(c *Config) { c.Addr = a }, func(c *Config) { c.Seeds[0].Addr = a }, func(c *Config) { c.Seeds[1].Addr = a })
	}
	for _, p := range notPlaces() {
		l = append(l, func(c *Config) { c.Place = p }, func(c *Config) { c.Seeds[0].Place = p }, func(c *Config) { c.Seeds[1].Place = p })
	}
	for _, period := range []uint64{0, 1, 1001, 1 << 32, 1<<32 + 5, 1 << 63, math.MaxUint64} {
		l = append(l, func(c *Config) { c.Period = period }, func(c *Config) { c.Period, c.Hold = period, 100000 }, func(c *Config) { c.Period, c.Hold = period, period })
	}
	for _, hold := range []uint64{0, 1, 4, 100001, 1 << 32, 1<<32 + 20, 1 << 63, math.MaxUint64} {
		l = append(l, func(c *Config) { c.Hold = hold })
	}
	for _, fan := range []int{0, -1, -4, 5, 8, 257, 1 << 32, 1<<32 + 1, math.MaxInt64, math.MinInt64} {
		l = append(l, func(c *Config) { c.Fan = fan })
	}
	return l
}

// P19.1: what may be, and what may not; New of what may not be is ErrArg.
func TestRight(t *testing.T) {
	for i, edit := range mayBe() {
		c := conf(9, 1, 2)
		edit(&c)
		if n, e := New(c); !Right(c) || n == nil || e != api.OK {
			t.Errorf("right one %d: %v, %v, %d", i, Right(c), n, e)
		}
	}
	for i, edit := range mayNotBe() {
		c := conf(9, 1, 2)
		edit(&c)
		if n, e := New(c); Right(c) || n != nil || e != api.ErrArg {
			t.Errorf("wrong one %d: %v, %v, %d", i, Right(c), n, e)
		}
	}
}

// P19.1: what a new node knows, in which order it came to know it, and what its parts are.
func TestNew(t *testing.T) {
	c := conf(9, 3, 9, 1)
	c.Inc, c.Draw, c.Period, c.Hold = 77, 12345, 7, 33
	c.Seeds[1].Addr = at(1, 1)
	n := made(t, c)
	if l, want := n.View().Members(), news(alive(1, 0), alive(3, 0), alive(9, 77)); !slices.Equal(l, want) {
		t.Errorf("Members: %v, want %v", l, want)
	}
	if l, want := n.View().Events(), []view.Event{{ID: 9, Was: -1, Inc: 77}, {ID: 3, Was: -1}, {ID: 1, Was: -1}}; !slices.Equal(l, want) {
		t.Errorf("Events: %v, want %v", l, want)
	}
	wantMe(t, n, alive(9, 77))
	wantQueue(t, n)
	wantPaths(t, n)
	wantClients(t, n)
	wantHeld(t, n, 0)
	if n.Bad() != 0 || n.seq != 0 || n.next != 0 || n.left || n.ring.State() != 12345 || len(n.ring.Left()) != 0 {
		t.Errorf("New: %+v", n)
	}
	if n.probe != (probe.Probe{First: 7, Second: 7}) || len(n.doubt.Items()) != 0 {
		t.Errorf("New: %+v, %v", n.probe, n.doubt.Items())
	}
	r, _ := reach.New(2, 33)
	table, _ := lease.NewTable(8, 33)
	leases, _ := lease.NewLeases(2, 7)
	paths, _ := path.New(3, 7, 7, 33)
	if *n.reach != *r || *n.clients != *table || *n.leases != *leases || *n.paths != *paths {
		t.Errorf("New: %+v, %+v, %+v, %+v", n.reach, n.clients, n.leases, n.paths)
	}
}

// P19.1: a Queue of MaxQueue has room for all nodes, and for more: 33 records can't be told of.
func TestNewQueue(t *testing.T) {
	n := plain(t, 1)
	for id := 1; id <= api.MaxNodes; id++ {
		tell(t, n, 0, 1, alive(id, 5))
	}
	if l := n.Queue(); len(l) != api.MaxNodes {
		t.Errorf("%d are told on, want %d", len(l), api.MaxNodes)
	}
}

// P19.1: a seed's own record is at the Addr of its Config, not at that which it has among the seeds; a seed is public, another one at first unknown.
func TestNewSeed(t *testing.T) {
	c := conf(2, 1, 2)
	c.Addr, c.Seeds[1].Addr, c.Inc = at(77, 77), at(88, 88), 3
	n := made(t, c)
	wantMe(t, n, moved(alive(2, 3), at(77, 77)))
	if n.Class() != 1 {
		t.Errorf("a seed's Class: %d", n.Class())
	}
	if l := n.View().Members(); len(l) != 2 || l[0] != alive(1, 0) {
		t.Errorf("Members: %v", l)
	}
	if n := plain(t, 1); n.Class() != 0 {
		t.Errorf("a new node's Class: %d", n.Class())
	}
}

// P19.1, P5.1: wherever it tells its Place, that has no -0, which no datagram could tell.
func TestNear(t *testing.T) {
	minus := math.Copysign(0, -1)
	c := conf(9, 1)
	c.Place = complex(minus, minus)
	n := made(t, c)
	wantSends(t, "Join", n.Join(0), raw(t, 9, home(1), wire.Msg{Kind: wire.Join, News: news(alive(1, 0), alive(9, 0))}))
	wantSends(t, "Ping", take(t, n, 0, 1, wire.Msg{Kind: wire.Ping, Node: 9}), toHome(t, 9, 1, wire.Msg{Kind: wire.Ack}))
	take(t, n, 0, 1, wire.Msg{Kind: wire.PingReq, Node: 2, Seq: 4, Addr: home(2)})
	wantSends(t, "Ack", take(t, n, 0, 2, wire.Msg{Kind: wire.Ack, Seq: 1}), toHome(t, 9, 1, wire.Msg{Kind: wire.Ack, Seq: 4}))
}

// P3: the seeds that are handed in stay as they are, and are not kept.
func TestSeedsStay(t *testing.T) {
	c := conf(9, 3, 1, 2)
	backing := append(slices.Clone(c.Seeds), seedsOf(7, 8)...)
	c.Seeds = backing[:3]
	n := made(t, c)
	n.Join(0)
	n.Tick(0)
	if !slices.Equal(backing, seedsOf(3, 1, 2, 7, 8)) {
		t.Errorf("the seeds were written into: %v", backing)
	}
	want := made(t, conf(9, 3, 1, 2))
	want.Join(0)
	want.Tick(0)
	for i := range backing {
		backing[i] = Seed{ID: 20 + i, Addr: at(1, 1), Place: 5}
	}
	wantSends(t, "Join", n.Join(1), want.Join(1)...)
	for now := uint64(1); now < 60; now++ {
		wantSends(t, "Tick", n.Tick(now), want.Tick(now)...)
	}
}

// P19.3: each seed but itself is told, in the order of the Config, at its Addr there.
func TestJoin(t *testing.T) {
	n := made(t, conf(2, 3, 2, 1))
	tell(t, n, 0, 1, moved(alive(1, 8), at(66, 6)), dead(20, 1), suspect(4, 0))
	was := stateOf(n)
	join := wire.Msg{Kind: wire.Join, Place: site(2), News: news(moved(alive(1, 8), at(66, 6)), alive(2, 0), alive(3, 0), suspect(4, 0), dead(20, 1))}
	wantSends(t, "Join", n.Join(1), raw(t, 2, home(3), join), raw(t, 2, home(1), join))
	stays(t, n, was, "Join")
	wantSends(t, "Join", n.Join(1<<62), raw(t, 2, home(3), join), raw(t, 2, home(1), join))
	alone := made(t, conf(1, 1))
	wantSends(t, "Join of the one seed", alone.Join(0))
}

// P19.3: all nodes go in one Join.
func TestJoinAll(t *testing.T) {
	n := plain(t, 1)
	var all []record.Record
	for id := 1; id <= api.MaxNodes; id++ {
		r := dead(id, 3)
		if id == 9 {
			r = alive(9, 0)
		}
		all = append(all, r)
		if id != 9 {
			tell(t, n, 0, 1, r)
		}
	}
	wantSends(t, "Join", n.Join(0), raw(t, 9, home(1), wire.Msg{Kind: wire.Join, Place: site(9), News: all}))
}

// P19.3: who leaves tells all that are live, and nothing more is done by it, but that it counts what is bad.
func TestLeave(t *testing.T) {
	n := made(t, Config{ID: 9, Addr: home(9), Place: 1, Inc: 6, Seeds: seedsOf(1, 2), Period: 5, Hold: 20, Fan: 1})
	tell(t, n, 0, 1, suspect(4, 0), dead(5, 0), left(6, 0), alive(20, 0), alive(3, 0))
	n.paths.Open(3, at(33, 3), 0)
	queued := n.Queue()
	leave := wire.Msg{Kind: wire.Leave, News: news(left(9, 6))}
	wantSends(t, "Leave", n.Leave(3), toHome(t, 9, 1, leave), toHome(t, 9, 2, leave), raw(t, 9, at(33, 3), leave), toHome(t, 9, 4, leave), toHome(t, 9, 20, leave))
	wantMe(t, n, left(9, 6))
	wantQueue(t, n, queued...)
	was := stateOf(n)
	wantSends(t, "Join", n.Join(4))
	wantSends(t, "Leave", n.Leave(4))
	for now := uint64(4); now < 40; now++ {
		wantSends(t, "Tick", n.Tick(now))
	}
	for kind := 1; kind <= 16; kind++ {
		wantSends(t, "Take", n.Take(5, home(1), anyOf(t, kind, 1, 9)))
	}
	wantSends(t, "Take of a bad one in a Relay", n.Take(5, home(1), by(t, 1, wire.Msg{Kind: wire.Relay, Node: 9, Body: "x"})))
	tell(t, n, 5, 1, dead(9, 6), left(9, 9), alive(2, 5))
	stays(t, n, was, "left")
	for i, s := range []string{"", "x", by(t, 9, wire.Msg{Kind: wire.Keep})} {
		wantSends(t, "Take of what is bad", n.Take(6, home(1), s))
		was.bad++
		stays(t, n, was, "bad", i)
	}
	if n.Bad() != 3 {
		t.Errorf("Bad: %d, want 3", n.Bad())
	}
}

// anyOf: a datagram of that kind, from one for another.
func anyOf(t *testing.T, kind, from, node int) string {
	t.Helper()
	m := wire.Msg{Kind: kind}
	has, _ := wire.Has(kind)
	for _, c := range has {
		switch c {
		case 'n':
			m.Node = node
		case 'a':
			m.Addr = home(25)
		case 'f':
			m.Flag = true
		case 'b':
			m.Body = by(t, from, wire.Msg{Kind: wire.Ping, Node: node})
		case 'r':
			m.News = news(alive(26, 1))
		}
	}
	return by(t, from, m)
}

// P19.3: of the greatest Inc one may leave.
func TestLeaveMost(t *testing.T) {
	c := conf(9, 1)
	c.Inc = math.MaxUint32
	n := made(t, c)
	wantSends(t, "Leave", n.Leave(1<<62), toHome(t, 9, 1, wire.Msg{Kind: wire.Leave, News: news(left(9, math.MaxUint32))}))
	wantMe(t, n, left(9, math.MaxUint32))
}

// P19.2: beyond 2^62 nothing is done, and nothing is bad; at it, all is.
func TestNows(t *testing.T) {
	n := plain(t, 1, 2)
	n.Tick(0)
	was := stateOf(n)
	for _, now := range notNows() {
		wantSends(t, "Join", n.Join(now))
		wantSends(t, "Leave", n.Leave(now))
		wantSends(t, "Tick", n.Tick(now))
		wantSends(t, "Take", n.Take(now, home(1), "x"))
		wantSends(t, "Take", n.Take(now, home(1), ""))
		for kind := 1; kind <= 16; kind++ {
			wantSends(t, "Take", n.Take(now, home(1), anyOf(t, kind, 1, 9)))
		}
		wantHeld(t, n, now)
		stays(t, n, was, "at", now)
	}
	if got := n.Tick(1 << 62); len(got) == 0 {
		t.Error("Tick at 2^62 sent nothing")
	}
	if n.next != 1<<62+5 || !n.reach.Heard(3) {
		t.Errorf("next: %d, %+v", n.next, n.reach)
	}
	n.Take(1<<62, home(1), "x")
	if got := n.Take(1<<62, home(1), by(t, 1, wire.Msg{Kind: wire.Join})); len(got) != 1 || n.Bad() != 1 {
		t.Errorf("Take at 2^62: %v, %d", got, n.Bad())
	}
	if got := n.Leave(1 << 62); len(got) != 2 {
		t.Errorf("Leave at 2^62: %v", got)
	}
}

// P19.6: what is told of its parts; the View is the thing itself, all else is new memory.
func TestParts(t *testing.T) {
	n := made(t, conf(1, 1, 2))
	if n.View() != n.View() || n.View() != n.view {
		t.Error("View is a copy")
	}
	n.View().Take(alive(30, 2))
	wantKnown(t, n, alive(30, 2))
	tell(t, n, 0, 2, alive(3, 0), alive(4, 0))
	take(t, n, 0, 5, wire.Msg{Kind: wire.Lease, Flag: true})
	take(t, n, 0, 6, wire.Msg{Kind: wire.Lease, Flag: true})
	take(t, n, 0, 3, wire.Msg{Kind: wire.SynAck, Node: 1})
	take(t, n, 0, 4, wire.Msg{Kind: wire.SynAck, Node: 1})
	was := stateOf(n)
	queued, paths, clients := n.Queue(), n.Paths(), n.Clients()
	if len(queued) != 2 || len(paths) != 2 || len(clients) != 2 {
		t.Fatalf("%v, %v, %v", queued, paths, clients)
	}
	clear(queued[:cap(queued)])
	clear(paths[:cap(paths)])
	clear(clients[:cap(clients)])
	stays(t, n, was, "writing into what was told")
	wantQueue(t, n, queue.Item{Record: alive(3, 0), Left: 9}, queue.Item{Record: alive(4, 0), Left: 9})
	wantClients(t, n, lease.Client{ID: 5, Addr: home(5), Until: 20}, lease.Client{ID: 6, Addr: home(6), Until: 20})
	wantPaths(t, n, path.Path{Peer: 3, State: 3, Addr: home(3), Next: 5, Until: 20}, path.Path{Peer: 4, State: 3, Addr: home(4), Next: 5, Until: 20})
}

// P19.6: the Class is the Reach's, but of a seed; Held is of the leases at that time.
func TestClass(t *testing.T) {
	n, seed := plain(t, 1, 2), made(t, conf(1, 1, 2))
	for _, x := range []*Node{n, seed} {
		for range 2 {
			x.reach.Round(1, 0)
			x.reach.End()
		}
	}
	if n.Class() != 2 || seed.Class() != 1 {
		t.Errorf("Class: %d, of a seed %d", n.Class(), seed.Class())
	}
	n.reach.Round(2, 0)
	n.reach.Heard(2)
	n.reach.End()
	if n.Class() != 1 {
		t.Errorf("Class of who was heard: %d", n.Class())
	}
	n.leases.Ask(0, 0, []int{2, 1}, []complex128{0, 0})
	n.leases.Got(2, 8, 0)
	n.leases.Got(1, 9, 0)
	wantHeld(t, n, 7, 1, 2)
	wantHeld(t, n, 8, 1)
	wantHeld(t, n, 9)
	held := n.Held(0)
	clear(held[:cap(held)])
	wantHeld(t, n, 0, 1, 2)
}

// P3: what is sent is new memory, each time.
func TestSendsAreNew(t *testing.T) {
	a, b := plain(t, 1, 2, 3), plain(t, 1, 2, 3)
	for now := uint64(0); now < 50; now++ {
		got, want := a.Tick(now), b.Tick(now)
		wantSends(t, "Tick", got, want...)
		clear(got[:cap(got)])
	}
}
