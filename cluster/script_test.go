package cluster

import (
	"math"
	"reflect"
	"slices"
	"testing"

	"scuttlebutt/addr"
	"scuttlebutt/api"
	"scuttlebutt/draw"
	"scuttlebutt/net"
	"scuttlebutt/node"
	"scuttlebutt/record"
	"scuttlebutt/rule"
	"scuttlebutt/wire"
)

// dice: what scripts are drawn by.
type dice struct{ s draw.Stream }

// throw: a number below n.
func (d *dice) throw(n int) int {
	k, after := d.s.Below(n)
	d.s = after
	return k
}

// model: a cluster done otherwise: nodes and a net by hand, and one switch for all ops.
type model struct {
	s       Spec
	now     uint64
	net     *net.Net
	nodes   map[int]*node.Node
	down    map[int]bool
	told    map[int][]record.Record
	boxes   map[int]int
	rebinds int
}

// newModel: a model of what is so.
func newModel(s Spec) *model {
	m := &model{s: s, nodes: map[int]*node.Node{}, down: map[int]bool{}, told: map[int][]record.Record{}, boxes: map[int]int{}}
	var hosts []net.Host
	var boxes []net.BoxSpec
	for i, x := range s.Members {
		if x.Box {
			boxes = append(boxes, net.BoxSpec{Type: x.Type, IP: 0x09000001 + uint32(i), Hold: s.Bind, Room: 64})
			m.boxes[i+1] = len(boxes)
		}
		hosts = append(hosts, net.Host{Inner: m.at(i), Box: m.boxes[i+1]})
	}
	m.net, _ = net.New(hosts, boxes, s.Room)
	for i := range s.Members {
		m.begin(i+1, 0)
	}
	return m
}

// at: where the i-th member is.
func (m *model) at(i int) addr.Addr {
	if m.s.Members[i].Box {
		return addr.Addr{IP: 0x0a000001 + uint32(i), Port: 7000}
	}
	return addr.Addr{IP: 0x05000001 + uint32(i), Port: 7000}
}

// begin: a new node of that Inc.
func (m *model) begin(id int, inc uint32) {
	c := node.Config{ID: id, Addr: m.at(id - 1), Place: m.s.Members[id-1].Place, Draw: m.s.Draw + uint64(id), Inc: inc, Period: m.s.Period, Hold: m.s.Hold, Fan: m.s.Fan}
	for i := range m.s.Seeds {
		c.Seeds = append(c.Seeds, node.Seed{ID: i + 1, Addr: m.at(i), Place: m.s.Members[i].Place})
	}
	m.nodes[id], _ = node.New(c)
	m.sent(id, nil)
}

// sent: that node did what sends these.
func (m *model) sent(id int, out []node.Send) {
	for _, x := range out {
		m.net.Send(m.now, id, x.To, x.Bytes)
	}
	me, l := m.nodes[id].Me(), m.told[id]
	if len(l) == 0 || l[len(l)-1] != me {
		m.told[id] = append(l, me)
	}
}

// do: Do, of a kind that there is.
func (m *model) do(o Op) api.Errno {
	n := m.nodes[o.Node]
	switch o.Kind {
	case 0:
		m.now++
		for id := range len(m.s.Members) {
			if id++; !m.down[id] {
				m.sent(id, m.nodes[id].Tick(m.now))
			}
		}
	case 1:
		x, e := m.net.Deliver(m.now, o.Pick)
		if e == api.OK && x.Host > 0 && !m.down[x.Host] {
			m.sent(x.Host, m.nodes[x.Host].Take(m.now, x.From, x.Bytes))
		}
		return e
	case 2:
		return m.net.Drop(o.Pick)
	case 3:
		return m.net.Twice(o.Pick)
	case 4:
		return m.net.Delay(o.Pick, o.By)
	case 5, 8, 9, 11:
		if n == nil || m.down[o.Node] {
			return api.ErrNone
		}
		m.doNode(o.Kind, o.Node, n)
	case 6:
		return m.again(o.Node)
	case 7:
		if m.boxes[o.Node] == 0 {
			return api.ErrNone
		}
		m.net.Rebind(m.boxes[o.Node], 0x09000000+uint32(m.rebinds%250+1)*256+uint32(o.Node))
		m.rebinds++
	case 10:
		return m.net.Inject(m.now, o.From, o.To, o.Bytes)
	}
	return api.OK
}

// doNode: what is a thing of one that is up.
func (m *model) doNode(kind, id int, n *node.Node) {
	switch kind {
	case 5:
		m.down[id] = true
	case 8:
		m.sent(id, n.Join(m.now))
	case 9:
		m.sent(id, n.Leave(m.now))
	case 11:
		m.sent(id, n.Tick(m.now))
	}
}

// again: a restart.
func (m *model) again(id int) api.Errno {
	if m.nodes[id] == nil {
		return api.ErrNone
	}
	if !m.down[id] {
		return api.ErrOld
	}
	inc := m.told[id][len(m.told[id])-1].Inc
	if inc == 1<<32-1 {
		return api.ErrNone
	}
	m.down[id] = false
	m.begin(id, inc+1)
	return api.OK
}

// state: all that is to be seen of m.
func (m *model) state() state {
	s := state{now: m.now, items: m.net.Bag().Items()}
	for id := 1; id <= len(m.s.Members); id++ {
		x := stateOfNode(m.nodes[id], m.now)
		x.up, x.told = !m.down[id], slices.Clone(m.told[id])
		s.nodes = append(s.nodes, x)
	}
	for k := 1; k <= len(m.boxes); k++ {
		s.ips = append(s.ips, m.net.Box(k).IP())
		s.binds = append(s.binds, m.net.Box(k).Binds())
	}
	return s
}

// drawnSpec: a Spec that is right.
func drawnSpec(d *dice) Spec {
	members := 1 + d.throw(12)
	s := Spec{
		Members: make([]Member, members), Seeds: 1 + d.throw(min(4, members)),
		Draw: uint64(d.throw(1000)) - 500, Period: uint64(2 + d.throw(8)), Fan: 1 + d.throw(4),
		Bind: uint64(1 + d.throw(60)), Room: 1 + d.throw(200),
	}
	s.Hold = s.Period + uint64(d.throw(40))
	for i := range s.Members {
		s.Members[i].Place = complex(float64(d.throw(20)-10), float64(d.throw(20)-10))
		if i >= s.Seeds {
			s.Members[i].Box = d.throw(2) == 1
			s.Members[i].Type = rule.Type{Map: d.throw(3), Filter: d.throw(3)}
		}
	}
	return s
}

// drawnBytes: what is injected: nothing that is told, something about anybody, or what is under way.
func drawnBytes(d *dice, c *Cluster) string {
	if d.throw(4) == 0 {
		return "no datagram"
	}
	if l := c.Net().Bag().Items(); len(l) > 0 && d.throw(2) == 0 {
		return l[d.throw(len(l))].Bytes
	}
	r := record.Record{ID: 1 + d.throw(14), State: d.throw(4), Inc: uint32(d.throw(4)), Addr: drawnAddr(d, c)}
	if d.throw(6) == 0 {
		r.Inc = api.MaxInc - uint32(d.throw(3))
	}
	bytes, _ := wire.Put(wire.Msg{Kind: wire.Leave, From: 1 + d.throw(14), News: []record.Record{r}})
	return bytes
}

// drawnAddr: where a member is, or its box, or nobody.
func drawnAddr(d *dice, c *Cluster) addr.Addr {
	id := 1 + d.throw(13)
	switch d.throw(4) {
	case 0:
		return zoe
	case 1:
		return addr.Addr{IP: 9<<24 + uint32(id), Port: 20000 + uint16(d.throw(4))}
	}
	if a := Addr(c.spec, id); a != (addr.Addr{}) {
		return a
	}
	return addr.Addr{IP: uint32(d.throw(2)), Port: 1}
}

// drawnOp: what is done next; mostly time goes on, and things arrive.
func drawnOp(d *dice, c *Cluster) Op {
	o := Op{Kind: d.throw(13), Node: d.throw(15) - 1, Pick: d.throw(40)}
	switch d.throw(8) {
	case 0, 1:
		o.Kind = opPass
	case 2, 3, 4:
		o.Kind = opDeliver
	case 5:
		o.Kind = []int{opJoin, opRestart, opTick}[d.throw(3)]
	}
	if d.throw(30) == 0 {
		o.Pick = -1 - d.throw(3)
	}
	o.By = uint64(d.throw(20))
	if d.throw(20) == 0 {
		o.By = math.MaxUint64
	}
	if o.Kind == opInject {
		o.From, o.To, o.Bytes = drawnAddr(d, c), drawnAddr(d, c), drawnBytes(d, c)
	}
	return o
}

// P21.1 to P21.4: drawn scripts do what the chapter says, of clusters that are drawn.
func TestScripts(t *testing.T) {
	for seed := range uint64(150) {
		d := &dice{draw.New(seed)}
		s := drawnSpec(d)
		c, m := made(t, s), newModel(s)
		for step := range 400 {
			o := drawnOp(d, c)
			if got, want := c.Do(o), m.do(o); got != want {
				t.Fatalf("seed %d, step %d: Do(%v): error %d, want %d", seed, step, o, got, want)
			}
			if step%7 > 0 && step < 399 {
				continue
			}
			if got, want := stateOf(c), m.state(); !reflect.DeepEqual(got, want) {
				t.Fatalf("seed %d, step %d: %v, want %v", seed, step, got, want)
			}
		}
	}
}

// P21.5: the same script does the same, also where another one is done in between.
func TestSame(t *testing.T) {
	for seed := range uint64(20) {
		d, e := &dice{draw.New(seed)}, &dice{draw.New(seed + 1000)}
		s := drawnSpec(d)
		first, second, other := made(t, s), made(t, s), made(t, drawnSpec(e))
		var script []Op
		for range 400 {
			o := drawnOp(d, first)
			script = append(script, o)
			first.Do(o)
		}
		for _, o := range script {
			second.Do(o)
			other.Do(drawnOp(e, other))
		}
		if got, want := stateOf(second), stateOf(first); !reflect.DeepEqual(got, want) {
			t.Errorf("seed %d: %v, want %v", seed, got, want)
		}
	}
}

// What is known only rises, and who is alive in a new Inc told that of itself, where nobody is hostile (T2).
func TestRises(t *testing.T) {
	for seed := range uint64(40) {
		d := &dice{draw.New(seed)}
		c := made(t, drawnSpec(d))
		was := stateOf(c)
		for range 400 {
			o := drawnOp(d, c)
			if o.Kind == opInject {
				continue
			}
			c.Do(o)
			is := stateOf(c)
			for i, x := range is.nodes {
				for _, r := range x.members {
					wantRisen(t, was.nodes[i], r, o.Kind == opRestart)
					if r.State == record.Alive && !slices.Contains(c.Told(r.ID), r) {
						t.Errorf("seed %d: %d knows %v, that was never told", seed, i+1, r)
					}
				}
			}
			was = is
		}
	}
}

// wantRisen: what a node came to know must be over what it knew, or that; who restarts begins anew.
func wantRisen(t *testing.T, was nodeState, r record.Record, restarts bool) {
	t.Helper()
	for _, x := range was.members {
		if x.ID == r.ID && record.Over(x, r) && !restarts {
			t.Errorf("%v behind %v", r, x)
		}
	}
}

// Whatever is done, nothing grows beyond its room (T3).
func TestBounds(t *testing.T) {
	for seed := range uint64(40) {
		d := &dice{draw.New(seed)}
		s := drawnSpec(d)
		c := made(t, s)
		for range 400 {
			o := drawnOp(d, c)
			if d.throw(3) == 0 {
				o = Op{Kind: opInject, From: drawnAddr(d, c), To: drawnAddr(d, c), Bytes: drawnBytes(d, c)}
			}
			c.Do(o)
			is := stateOf(c)
			if len(is.items) > s.Room {
				t.Fatalf("seed %d: %d under way", seed, len(is.items))
			}
			for _, x := range is.nodes {
				if len(x.members) > api.MaxNodes || len(x.queue) > api.MaxQueue || len(x.clients) > api.MaxLease || len(x.held) > 2 || len(x.paths) > api.MaxNodes {
					t.Fatalf("seed %d: %v", seed, x)
				}
			}
			for _, l := range is.binds {
				if len(l) > api.MaxBind {
					t.Fatalf("seed %d: %d bindings", seed, len(l))
				}
			}
		}
	}
}
