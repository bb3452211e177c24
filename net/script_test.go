package net

import (
	"reflect"
	"slices"
	"strconv"
	"testing"

	"scuttlebutt/addr"
	"scuttlebutt/api"
	"scuttlebutt/bag"
	"scuttlebutt/draw"
	"scuttlebutt/natbox"
	"scuttlebutt/rule"
)

// dice: what scripts are drawn by.
type dice struct{ s draw.Stream }

// throw: a number below n.
func (d *dice) throw(n int) int {
	k, after := d.s.Below(n)
	d.s = after
	return k
}

// plainBox: a box done otherwise: its bindings by port, in no order.
type plainBox struct {
	spec  BoxSpec
	binds map[uint16]natbox.Bind
}

// sweep: those that are over go.
func (b *plainBox) sweep(now uint64) {
	for port, x := range b.binds {
		if x.Until <= now {
			delete(b.binds, port)
		}
	}
}

// sorted: the bindings, by port.
func (b *plainBox) sorted() []natbox.Bind {
	l := []natbox.Bind{}
	for port := 20000; port <= 20127; port++ {
		if x, ok := b.binds[uint16(port)]; ok {
			l = append(l, x)
		}
	}
	return l
}

// portOf: the port of the binding of these, made where there is none.
func (b *plainBox) portOf(inner, key addr.Addr) uint16 {
	for port, x := range b.binds {
		if x.Inner == inner && x.Key == key {
			return port
		}
	}
	if l := b.sorted(); len(l) == b.spec.Room {
		slices.SortStableFunc(l, func(x, y natbox.Bind) int { return int(x.Until) - int(y.Until) })
		delete(b.binds, l[0].Port)
	}
	port := uint16(20000)
	for b.binds[port].Port != 0 {
		port++
	}
	b.binds[port] = natbox.Bind{Inner: inner, Key: key, Port: port}
	return port
}

// out: Out.
func (b *plainBox) out(now uint64, inner, dst addr.Addr) addr.Addr {
	b.sweep(now)
	key := [3]addr.Addr{{}, {IP: dst.IP}, dst}[b.spec.Type.Map]
	port := b.portOf(inner, key)
	x := b.binds[port]
	x.Until = now + b.spec.Hold
	if !slices.Contains(x.Met, dst) {
		x.Met = append(slices.Clone(x.Met), dst)
		x.Met = x.Met[max(0, len(x.Met)-16):]
	}
	b.binds[port] = x
	return addr.Addr{IP: b.spec.IP, Port: port}
}

// in: In; none, if it is not let in.
func (b *plainBox) in(now uint64, port uint16, src addr.Addr) addr.Addr {
	b.sweep(now)
	x, ok := b.binds[port]
	if !ok || !lets(b.spec.Type.Filter, x.Met, src) {
		return addr.Addr{}
	}
	x.Until = now + b.spec.Hold
	b.binds[port] = x
	return x.Inner
}

// lets: does a box of that Filter let src in, where those were met?
func lets(filter int, met []addr.Addr, src addr.Addr) bool {
	for _, x := range met {
		if filter == rule.Any || x == src || filter == rule.Host && x.IP == src.IP {
			return true
		}
	}
	return false
}

// plain: a net done otherwise, word by word as the chapter tells it.
type plain struct {
	hosts []Host
	boxes map[int]*plainBox
	room  int
	items []bag.Item
}

// newPlain: a plain net of these.
func newPlain(hosts []Host, boxes []BoxSpec, room int) *plain {
	p := &plain{hosts: hosts, boxes: map[int]*plainBox{}, room: room}
	for k, x := range boxes {
		p.boxes[k+1] = &plainBox{x, map[uint16]natbox.Bind{}}
	}
	return p
}

// inject: Inject.
func (p *plain) inject(now uint64, from, to addr.Addr, bytes string) api.Errno {
	if len(p.items) == p.room {
		return api.ErrFull
	}
	p.items = append(p.items, bag.Item{From: from, To: to, Bytes: bytes, At: now + 1})
	return api.OK
}

// send: Send.
func (p *plain) send(now uint64, host int, to addr.Addr, bytes string) api.Errno {
	h := p.hosts[host-1]
	if b := p.boxes[h.Box]; b != nil {
		return p.inject(now, b.out(now, h.Inner, to), to, bytes)
	}
	return p.inject(now, h.Inner, to, bytes)
}

// where: the host at which x arrives.
func (p *plain) where(now uint64, x bag.Item) int {
	for k, h := range p.hosts {
		if h.Box == 0 && h.Inner == x.To {
			return k + 1
		}
	}
	for box, b := range p.boxes {
		if b.spec.IP != x.To.IP {
			continue
		}
		inner := b.in(now, x.To.Port, x.From)
		for k, h := range p.hosts {
			if h.Box == box && h.Inner == inner {
				return k + 1
			}
		}
	}
	return 0
}

// take: the one picked of those ready at now, that goes.
func (p *plain) take(now uint64, pick int) (bag.Item, api.Errno) {
	ready := []int{}
	for k, x := range p.items {
		if x.At <= now {
			ready = append(ready, k)
		}
	}
	if len(ready) == 0 {
		return bag.Item{}, api.ErrNone
	}
	k := ready[pick%len(ready)]
	x := p.items[k]
	p.items = slices.Delete(slices.Clone(p.items), k, k+1)
	return x, api.OK
}

// deliver: Deliver.
func (p *plain) deliver(now uint64, pick int) (Arrival, api.Errno) {
	x, e := p.take(now, pick)
	if e != api.OK {
		return Arrival{}, e
	}
	return Arrival{p.where(now, x), x.From, x.Bytes}, api.OK
}

// rebind: Rebind.
func (p *plain) rebind(box int, ip uint32) api.Errno {
	b := p.boxes[box]
	if b == nil {
		return api.ErrNone
	}
	for k, x := range p.boxes {
		if k != box && x.spec.IP == ip {
			return api.ErrArg
		}
	}
	for _, h := range p.hosts {
		if h.Inner.IP == ip {
			return api.ErrArg
		}
	}
	b.spec.IP, b.binds = ip, map[uint16]natbox.Bind{}
	return api.OK
}

// play does to a net, and to a plain one, what is drawn.
type play struct {
	dice
	n    *Net
	p    *plain
	now  uint64
	puts int
	// By bytes, each of which is sent once: where from and where to.
	sent map[string][2]addr.Addr
	met  [2]int // how many arrived behind a box, and how many nowhere
}

// newPlay: a play of five or more hosts and up to four boxes, all drawn.
func newPlay(t *testing.T, seed uint64) *play {
	t.Helper()
	g := &play{dice: dice{draw.New(seed)}, sent: map[string][2]addr.Addr{}}
	specs := []BoxSpec{}
	for k := range 1 + g.throw(4) {
		specs = append(specs, BoxSpec{rule.Type{Map: g.throw(3), Filter: g.throw(3)}, uint32(0x09000001 + k), uint64(1 + g.throw(30)), 1 + g.throw(5)})
	}
	hosts := []Host{}
	for k := range 5 + g.throw(8) {
		hosts = append(hosts, Host{addr.Addr{IP: uint32(0x05000001 + k/2), Port: uint16(7000 + k%2)}, g.throw(len(specs) + 1)})
	}
	room := 1 + g.throw(30)
	g.n, g.p = made(t, hosts, specs, room), newPlain(hosts, specs, room)
	return g
}

// place: an address of a host, or mostly of a box.
func (g *play) place() addr.Addr {
	if g.throw(3) == 0 {
		return g.p.hosts[g.throw(len(g.p.hosts))].Inner
	}
	b := g.p.boxes[1+g.throw(len(g.p.boxes))]
	return addr.Addr{IP: b.spec.IP, Port: uint16(20000 + g.throw(4))}
}

// bytes: new ones.
func (g *play) bytes() string {
	g.puts++
	return strconv.Itoa(g.puts)
}

// send sends one, and answers whether both did the same.
func (g *play) send() bool {
	host, to, bytes := 1+g.throw(len(g.p.hosts)), g.place(), g.bytes()
	e, f := g.n.Send(g.now, host, to, bytes), g.p.send(g.now, host, to, bytes)
	if e == api.OK {
		g.sent[bytes] = [2]addr.Addr{g.n.under.Items()[g.n.under.Len()-1].From, to}
	}
	return e == f
}

// inject likewise lays one in.
func (g *play) inject() bool {
	from, to, bytes := g.place(), g.place(), g.bytes()
	g.sent[bytes] = [2]addr.Addr{from, to}
	return g.n.Inject(g.now, from, to, bytes) == g.p.inject(g.now, from, to, bytes)
}

// mayArrive: does P20.4 hold of what arrived, where the boxes' bindings were these?
func (g *play) mayArrive(x Arrival, binds map[int][]natbox.Bind) bool {
	way := g.sent[x.Bytes]
	if way[0] != x.From || x.Host == 0 {
		return way[0] == x.From
	}
	h := g.p.hosts[x.Host-1]
	if h.Box == 0 {
		return way[1] == h.Inner
	}
	g.met[0]++
	kind := g.p.boxes[h.Box].spec.Type
	return way[1].IP == g.n.Box(h.Box).IP() && slices.ContainsFunc(binds[h.Box], func(b natbox.Bind) bool {
		return b.Port == way[1].Port && b.Inner == h.Inner && g.now < b.Until && lets(kind.Filter, b.Met, x.From)
	})
}

// deliver delivers one, and holds to P20.4.
func (g *play) deliver() bool {
	binds := map[int][]natbox.Bind{}
	for box := range g.p.boxes {
		binds[box] = g.n.Box(box).Binds()
	}
	pick := g.throw(100)
	x, e := g.n.Deliver(g.now, pick)
	want, f := g.p.deliver(g.now, pick)
	if e == api.OK && x.Host == 0 {
		g.met[1]++
	}
	return x == want && e == f && (e != api.OK || g.mayArrive(x, binds))
}

// rebind gives a box another IP, or tries to.
func (g *play) rebind() bool {
	box, ip := g.throw(6), uint32(0x09000001+g.throw(6))
	if g.throw(4) == 0 {
		ip = g.p.hosts[g.throw(len(g.p.hosts))].Inner.IP
	}
	return g.n.Rebind(box, ip) == g.p.rebind(box, ip)
}

// meddle drops one, or has it be twice, or later.
func (g *play) meddle() bool {
	pick, by := g.throw(100), uint64(g.throw(9))
	all := len(g.p.items)
	none := all == 0
	k := pick % max(all, 1)
	switch g.throw(3) {
	case 0:
		_, f := g.p.take(1<<63, pick)
		return g.n.Drop(pick) == f
	case 1:
		e := g.n.Twice(pick)
		if none {
			return e == api.ErrNone
		}
		if all == g.p.room {
			return e == api.ErrFull
		}
		g.p.items = append(g.p.items, g.p.items[k])
		return e == api.OK
	}
	e := g.n.Delay(pick, by)
	if none {
		return e == api.ErrNone
	}
	g.p.items[k].At += by
	return e == api.OK
}

// step does one thing, and answers whether both did the same.
func (g *play) step() bool {
	g.now += uint64(g.throw(2))
	switch k := g.throw(100); {
	case k < 40:
		return g.send()
	case k < 48:
		return g.inject()
	case k < 92:
		return g.deliver()
	case k < 93:
		return g.rebind()
	}
	return g.meddle()
}

// same: do the two hold the same?
func (g *play) same() bool {
	for box, b := range g.p.boxes {
		got, want := g.n.Box(box), b.sorted()
		if got.IP() != b.spec.IP || len(got.Binds()) != len(want) || len(want) > 0 && !reflect.DeepEqual(got.Binds(), want) {
			return false
		}
	}
	return slices.Equal(g.n.Bag().Items(), g.p.items)
}

// P20.1 to P20.4, T3: whatever is done, a net does as the plain one, and nothing
// arrives but what was sent there, and what the box lets in.
func TestAsThePlainOne(t *testing.T) {
	met := [2]int{}
	for seed := range uint64(150) {
		g := newPlay(t, seed)
		for i := range 400 {
			if !g.step() || !g.same() {
				t.Fatalf("seed %d, step %d, now %d: %v, want %v", seed, i, g.now, stateOf(g.n), g.p)
			}
		}
		met[0] += g.met[0]
		met[1] += g.met[1]
	}
	if met[0] < 1000 || met[1] < 1000 {
		t.Errorf("%d arrived behind a box, %d nowhere", met[0], met[1])
	}
}

// P4: two nets to which the same is done are the same, and neither has anything of the other.
func TestSameAgain(t *testing.T) {
	g, h := newPlay(t, 7), newPlay(t, 7)
	for range 500 {
		if !g.step() || !h.step() || !reflect.DeepEqual(stateOf(g.n), stateOf(h.n)) {
			t.Fatal(stateOf(g.n), stateOf(h.n))
		}
	}
}

// T5, P7.3: of all pairs of boxes, what one inside sends to the address that the other has toward a third gets in just where Through tells it.
func TestThrough(t *testing.T) {
	for pair := range 81 {
		x, y := rule.Type{Map: pair / 27, Filter: pair / 9 % 3}, rule.Type{Map: pair / 3 % 3, Filter: pair % 3}
		n := made(t, []Host{{ann, 0}, {bob, 1}, {cat, 2}}, []BoxSpec{{x, east, 9, 8}, {y, west, 9, 8}}, 8)
		at := [2]addr.Addr{}
		for k := range at {
			wantE(t, n.Send(0, k+2, ann, "x"), api.OK)
			got, e := n.Deliver(1, 0)
			wantE(t, e, api.OK)
			at[k] = got.From
		}
		wantE(t, n.Send(1, 3, at[0], "y"), api.OK)
		wantE(t, n.Drop(0), api.OK)
		wantE(t, n.Send(1, 2, at[1], "z"), api.OK)
		got, e := n.Deliver(2, 0)
		if e != api.OK || (got.Host == 3) != rule.Through(x, y) || got.Bytes != "z" {
			t.Errorf("%s, %s: %v, %d", rule.Word(x), rule.Word(y), got, e)
		}
	}
}
