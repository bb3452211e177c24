package cluster

import (
	"math"
	"reflect"
	"slices"
	"testing"

	"scuttlebutt/addr"
	"scuttlebutt/api"
	"scuttlebutt/bag"
	"scuttlebutt/lease"
	"scuttlebutt/natbox"
	"scuttlebutt/node"
	"scuttlebutt/path"
	"scuttlebutt/place"
	"scuttlebutt/queue"
	"scuttlebutt/record"
	"scuttlebutt/rule"
)

// The members of these tests: ann and bob are seeds, cat and dan stand behind a
// box each, eve behind none.
const (
	ann = 1
	bob = 2
	cat = 3
	dan = 4
	eve = 5
)

// Where they are.
var (
	annAt = addr.Addr{IP: 0x05000001, Port: 7000}
	bobAt = addr.Addr{IP: 0x05000002, Port: 7000}
	catAt = addr.Addr{IP: 0x0a000003, Port: 7000}
	danAt = addr.Addr{IP: 0x0a000004, Port: 7000}
	eveAt = addr.Addr{IP: 0x05000005, Port: 7000}
)

// zoe is nobody's.
var zoe = addr.Addr{IP: 0x06000001, Port: 7000}

// The kinds of ops.
const (
	opPass = iota
	opDeliver
	opDrop
	opTwice
	opDelay
	opCrash
	opRestart
	opRebind
	opJoin
	opLeave
	opInject
	opTick
	opRest
)

// five: a Spec of the five.
func five() Spec {
	return Spec{
		Members: []Member{
			{Place: 0},
			{Place: 1 + 2i},
			{Place: 3, Box: true, Type: rule.Type{Map: rule.Host, Filter: rule.Both}},
			{Place: 5i, Box: true, Type: rule.Type{Map: rule.Both, Filter: rule.Host}},
			{Place: -4},
		},
		Seeds: 2, Draw: 77, Period: 8, Hold: 40, Fan: 2, Bind: 50, Room: 200,
	}
}

// with: five, but for what f does to it.
func with(f func(s *Spec)) Spec {
	s := five()
	f(&s)
	return s
}

// byHand: the Configs of the five, as the chapter tells them.
func byHand() []node.Config {
	seeds := []node.Seed{{ID: 1, Addr: annAt, Place: 0}, {ID: 2, Addr: bobAt, Place: 1 + 2i}}
	var l []node.Config
	places := []complex128{0, 1 + 2i, 3, 5i, -4}
	for i, a := range []addr.Addr{annAt, bobAt, catAt, danAt, eveAt} {
		l = append(l, node.Config{ID: i + 1, Addr: a, Place: places[i], Draw: 78 + uint64(i), Seeds: seeds, Period: 8, Hold: 40, Fan: 2})
	}
	return l
}

// handMade: a node of that Config.
func handMade(t *testing.T, c node.Config) *node.Node {
	t.Helper()
	n, e := node.New(c)
	if e != api.OK {
		t.Fatalf("node.New(%v): %d", c, e)
	}
	return n
}

// notIDs: numbers that are no member's, of as many.
func notIDs(n int) []int {
	return []int{0, -1, -n, n + 1, n + 2, 1<<32 + 1, n + 1<<32, math.MaxInt64, math.MinInt64, math.MinInt64 + 1}
}

// minus: picks that are below 0.
func minus() []int { return []int{-1, -2, -256, -1 << 32, math.MinInt64 + 1, math.MinInt64} }

// made: New, that must be OK.
func made(t *testing.T, s Spec) *Cluster {
	t.Helper()
	c, e := New(s)
	if c == nil || e != api.OK {
		t.Fatalf("New(%v): %v, %d", s, c, e)
	}
	return c
}

// fresh: a cluster of the five.
func fresh(t *testing.T) *Cluster {
	t.Helper()
	return made(t, five())
}

// wantE: e must be that error.
func wantE(t *testing.T, e, want api.Errno) {
	t.Helper()
	if e != want {
		t.Errorf("error %d, want %d", e, want)
	}
}

// does: the op must be OK.
func does(t *testing.T, c *Cluster, o Op) {
	t.Helper()
	if e := c.Do(o); e != api.OK {
		t.Fatalf("Do(%v): %d", o, e)
	}
}

// nodeState: all that is to be seen of a member.
type nodeState struct {
	up      bool
	told    []record.Record
	me      record.Record
	members []record.Record
	class   int
	held    []int
	paths   []path.Path
	clients []lease.Client
	queue   []queue.Item
	bad     uint64
}

// state: all that is to be seen of a cluster.
type state struct {
	now   uint64
	nodes []nodeState
	items []bag.Item
	ips   []uint32
	binds [][]natbox.Bind
}

// stateOfNode: that of a node, at now.
func stateOfNode(n *node.Node, now uint64) nodeState {
	return nodeState{
		me:      n.Me(),
		members: n.View().Members(),
		class:   n.Class(),
		held:    n.Held(now),
		paths:   n.Paths(),
		clients: n.Clients(),
		queue:   n.Queue(),
		bad:     n.Bad(),
	}
}

// stateOf: that of c.
func stateOf(c *Cluster) state {
	s := state{now: c.Now(), items: c.Net().Bag().Items()}
	for id := 1; c.Node(id) != nil; id++ {
		x := stateOfNode(c.Node(id), c.Now())
		x.up, x.told = c.Up(id), c.Told(id)
		s.nodes = append(s.nodes, x)
	}
	for k := 1; c.Net().Box(k) != nil; k++ {
		s.ips = append(s.ips, c.Net().Box(k).IP())
		s.binds = append(s.binds, c.Net().Box(k).Binds())
	}
	return s
}

// stays: the op must be that error, and leave c as it was.
func stays(t *testing.T, c *Cluster, want api.Errno, o Op) {
	t.Helper()
	was := stateOf(c)
	if e := c.Do(o); e != want {
		t.Errorf("Do(%v): error %d, want %d", o, e, want)
	}
	if is := stateOf(c); !reflect.DeepEqual(is, was) {
		t.Errorf("Do(%v): %v, want %v", o, is, was)
	}
}

// wantItems: what is under way must be these.
func wantItems(t *testing.T, c *Cluster, want ...bag.Item) {
	t.Helper()
	if got := c.Net().Bag().Items(); !slices.Equal(got, want) {
		t.Errorf("under way: %v, want %v", got, want)
	}
}

// wantTold: what that one told of itself must be these.
func wantTold(t *testing.T, c *Cluster, id int, want ...record.Record) {
	t.Helper()
	if got := c.Told(id); !slices.Equal(got, want) {
		t.Errorf("told by %d: %v, want %v", id, got, want)
	}
}

// empty: nothing is under way any more.
func empty(c *Cluster) {
	for c.Net().Bag().Len() > 0 {
		c.Do(Op{Kind: opDrop})
	}
}

// calm: time goes on, and all that is under way arrives.
func calm(c *Cluster, ticks int) {
	for range ticks {
		c.Do(Op{Kind: opPass})
		for c.Net().Bag().Ready(c.Now()) > 0 {
			c.Do(Op{Kind: opDeliver})
		}
	}
}

// items: what comes from there, sent at now.
func items(now uint64, from addr.Addr, out []node.Send) []bag.Item {
	var l []bag.Item
	for _, x := range out {
		l = append(l, bag.Item{From: from, To: x.To, Bytes: x.Bytes, At: now + 1})
	}
	return l
}

// P21.1: what is within the bounds is right, and a cluster is made of it.
func TestRight(t *testing.T) {
	for i, f := range []func(s *Spec){
		func(s *Spec) {},
		func(s *Spec) { s.Members, s.Seeds = s.Members[:1], 1 },
		func(s *Spec) { s.Members = s.Members[:2] },
		func(s *Spec) { s.Members = append(s.Members, make([]Member, 7)...) },
		func(s *Spec) { s.Seeds = 1 },
		func(s *Spec) { s.Members, s.Seeds = make([]Member, 3), 3 },
		func(s *Spec) { s.Members, s.Seeds = make([]Member, 4), 4 },
		func(s *Spec) { s.Members, s.Seeds = make([]Member, 12), 4 },
		func(s *Spec) { s.Draw = 0 },
		func(s *Spec) { s.Draw = math.MaxUint64 },
		func(s *Spec) { s.Period = 2 },
		func(s *Spec) { s.Period, s.Hold = 1000, 1000 },
		func(s *Spec) { s.Hold = s.Period },
		func(s *Spec) { s.Hold = 100000 },
		func(s *Spec) { s.Fan = 1 },
		func(s *Spec) { s.Fan = 4 },
		func(s *Spec) { s.Bind = 1 },
		func(s *Spec) { s.Bind = 1000000 },
		func(s *Spec) { s.Room = 1 },
		func(s *Spec) { s.Room = 256 },
		func(s *Spec) { s.Members[0].Place = complex(place.Most, -place.Most) },
		func(s *Spec) { s.Members[4].Place = complex(-place.Most, place.Most) },
		// Of who has no box the Type is nobody's.
		func(s *Spec) { s.Members[0].Type = rule.Type{Map: 3, Filter: -1} },
		func(s *Spec) { s.Members[4].Type = rule.Type{Map: math.MinInt, Filter: math.MaxInt} },
	} {
		s := with(f)
		if !Right(s) {
			t.Errorf("%d: %v is not right", i, s)
		}
		made(t, s)
	}
	for k := range 9 {
		made(t, with(func(s *Spec) { s.Members[2].Type = rule.Type{Map: k / 3, Filter: k % 3} }))
	}
}

// P21.1: all but the first Seeds members may have a box, eleven of them at most.
func TestRightBoxes(t *testing.T) {
	for seeds := 1; seeds <= 4; seeds++ {
		s := with(func(s *Spec) { s.Members, s.Seeds = make([]Member, 12), seeds })
		for i := range s.Members {
			s.Members[i].Box = i >= seeds
		}
		c := made(t, s)
		for k := 1; k <= 12-seeds; k++ {
			if b := c.Net().Box(k); b == nil || b.IP() != 9<<24+uint32(k+seeds) {
				t.Errorf("%d seeds, box %d: %v", seeds, k, b)
			}
		}
		if c.Net().Box(13-seeds) != nil {
			t.Errorf("%d seeds: a box more", seeds)
		}
		for i := range seeds {
			s.Members[i].Box = true
			if c, e := New(s); Right(s) || c != nil || e != api.ErrArg {
				t.Errorf("%d seeds, %d has a box: %v, %d", seeds, i+1, c, e)
			}
			s.Members[i].Box = false
		}
	}
}

// P21.1, P21.2: what is beyond them is not right, and no cluster is made of it.
func TestNotRight(t *testing.T) {
	for i, f := range []func(s *Spec){
		func(s *Spec) { *s = Spec{} },
		func(s *Spec) { s.Members = nil },
		func(s *Spec) { s.Members = []Member{} },
		func(s *Spec) { s.Members = append(s.Members, make([]Member, 8)...) },
		func(s *Spec) { s.Members = make([]Member, 1<<16) },
		func(s *Spec) { s.Seeds = 0 },
		func(s *Spec) { s.Seeds = -1 },
		func(s *Spec) { s.Seeds = math.MinInt },
		func(s *Spec) { s.Seeds = math.MaxInt },
		func(s *Spec) { s.Members = s.Members[:1] },
		func(s *Spec) { s.Members, s.Seeds = make([]Member, 3), 4 },
		func(s *Spec) { s.Members, s.Seeds = make([]Member, 5), 5 },
		func(s *Spec) { s.Members, s.Seeds = make([]Member, 12), 5 },
		func(s *Spec) { s.Seeds = 3 },
		func(s *Spec) { s.Period = 0 },
		func(s *Spec) { s.Period = 1 },
		func(s *Spec) { s.Period, s.Hold = 1001, 100000 },
		func(s *Spec) { s.Hold = s.Period - 1 },
		func(s *Spec) { s.Hold = 100001 },
		func(s *Spec) { s.Hold = math.MaxUint64 },
		func(s *Spec) { s.Fan = 0 },
		func(s *Spec) { s.Fan = -1 },
		func(s *Spec) { s.Fan = 5 },
		func(s *Spec) { s.Fan = math.MaxInt },
		func(s *Spec) { s.Bind = 0 },
		func(s *Spec) { s.Bind = 1000001 },
		func(s *Spec) { s.Bind = math.MaxUint64 },
		func(s *Spec) { s.Room = 0 },
		func(s *Spec) { s.Room = -1 },
		func(s *Spec) { s.Room = 257 },
		func(s *Spec) { s.Room = math.MinInt },
		func(s *Spec) { s.Room = math.MaxInt },
	} {
		s := with(f)
		if c, e := New(s); Right(s) || c != nil || e != api.ErrArg {
			t.Errorf("%d: %v: %v, %d", i, s, c, e)
		}
	}
}

// P21.1: each member's Place must be right, and the Type of each that has a box.
func TestNotRightMember(t *testing.T) {
	for id := ann; id <= eve; id++ {
		for _, p := range []complex128{0.5, 0.5i, complex(place.Most+1, 0), complex(0, -place.Most-1), complex(math.NaN(), 0), complex(0, math.Inf(1))} {
			s := with(func(s *Spec) { s.Members[id-1].Place = p })
			if c, e := New(s); Right(s) || c != nil || e != api.ErrArg {
				t.Errorf("%d at %v: %v, %d", id, p, c, e)
			}
		}
	}
	for _, id := range []int{cat, dan} {
		for _, x := range []rule.Type{{Map: 3}, {Filter: 3}, {Map: -1}, {Filter: -1}, {Map: math.MaxInt}, {Filter: math.MinInt}} {
			s := with(func(s *Spec) { s.Members[id-1].Type = x })
			if c, e := New(s); Right(s) || c != nil || e != api.ErrArg {
				t.Errorf("%d behind %v: %v, %d", id, x, c, e)
			}
		}
	}
}

// P21.1: Addr is by whether the member has a box; none of who is no member.
func TestAddr(t *testing.T) {
	for i, want := range []addr.Addr{annAt, bobAt, catAt, danAt, eveAt} {
		if got := Addr(five(), i+1); got != want {
			t.Errorf("%d: %v, want %v", i+1, got, want)
		}
	}
	for _, id := range notIDs(5) {
		if got := Addr(five(), id); got != (addr.Addr{}) {
			t.Errorf("%d: %v", id, got)
		}
	}
	for _, id := range []int{-1, 0, 1, 2} {
		if got := Addr(Spec{}, id); got != (addr.Addr{}) {
			t.Errorf("of no members, %d: %v", id, got)
		}
	}
}

// P21.1: Addr is also that of a Spec that is not right.
func TestAddrNotRight(t *testing.T) {
	s := Spec{Members: []Member{{Box: true, Place: 0.5, Type: rule.Type{Map: 7}}, {}}, Seeds: -1}
	if got, want := Addr(s, 1), (addr.Addr{IP: 0x0a000001, Port: 7000}); got != want {
		t.Errorf("%v, want %v", got, want)
	}
	if got := Addr(s, 2); got != bobAt {
		t.Errorf("%v, want %v", got, bobAt)
	}
	s.Members = make([]Member, 20)
	if got, want := Addr(s, 20), (addr.Addr{IP: 0x05000014, Port: 7000}); got != want {
		t.Errorf("%v, want %v", got, want)
	}
}

// P21.1, P21.2: each node is that of its Config, and does what such a one does.
func TestConfigs(t *testing.T) {
	for i, how := range byHand() {
		c, id := fresh(t), i+1
		n := handMade(t, how)
		if got, want := stateOfNode(c.Node(id), 0), stateOfNode(n, 0); !reflect.DeepEqual(got, want) {
			t.Errorf("%d: %v, want %v", id, got, want)
		}
		var want []node.Send
		for now := range uint64(100) {
			c.Do(Op{Kind: opTick, Node: id})
			want = append(want, n.Tick(now)...)
			// The others stand still.
			c.now++
		}
		if got := sends(c.Net().Bag().Items()); !slices.Equal(got, want) {
			t.Errorf("%d: %v, want %v", id, got, want)
		}
	}
}

// sends: what was sent, of what is under way.
func sends(l []bag.Item) []node.Send {
	var out []node.Send
	for _, x := range l {
		out = append(out, node.Send{To: x.To, Bytes: x.Bytes})
	}
	return out
}

// P21.1: a node draws by Draw and its ID, modulo 2^64.
func TestConfigDraw(t *testing.T) {
	s := with(func(s *Spec) { s.Draw = math.MaxUint64 - 1 })
	for id := ann; id <= eve; id++ {
		c, how := made(t, s), byHand()[id-1]
		// 2^64 - 2 and 1 is 2^64 - 1, and 2^64 - 2 and 2 is 0.
		how.Draw = []uint64{math.MaxUint64, 0, 1, 2, 3}[id-1]
		n := handMade(t, how)
		var want []node.Send
		for now := range uint64(100) {
			c.Do(Op{Kind: opTick, Node: id})
			want = append(want, n.Tick(now)...)
			c.now++
		}
		if got := sends(c.Net().Bag().Items()); !slices.Equal(got, want) {
			t.Errorf("%d: %v, want %v", id, got, want)
		}
	}
}

// P21.1: the seeds are the first Seeds members, and no others.
func TestConfigSeeds(t *testing.T) {
	for seeds := 1; seeds <= 4; seeds++ {
		s := with(func(s *Spec) { s.Members, s.Seeds = make([]Member, 6), seeds })
		c := made(t, s)
		for id := 1; id <= 6; id++ {
			want := []record.Record{}
			for x := 1; x <= 6; x++ {
				if x <= seeds || x == id {
					want = append(want, record.Record{ID: x, Addr: addr.Addr{IP: 5<<24 + uint32(x), Port: 7000}})
				}
			}
			if got := c.Node(id).View().Members(); !slices.Equal(got, want) {
				t.Errorf("%d seeds, %d knows %v, want %v", seeds, id, got, want)
			}
			if got := c.Node(id).Class() == 1; got != (id <= seeds) {
				t.Errorf("%d seeds, %d is one: %t", seeds, id, got)
			}
		}
	}
}

// P21.1: a box is of the member's Type, at 9.0.0.id, and holds for Bind.
func TestBoxes(t *testing.T) {
	for _, hold := range []uint64{1, 50, 1000000} {
		c := made(t, with(func(s *Spec) { s.Bind = hold }))
		for k, id := range []int{cat, dan} {
			b := c.Net().Box(k + 1)
			if b == nil || b.IP() != 9<<24+uint32(id) || b.Type() != five().Members[id-1].Type || len(b.Binds()) != 0 {
				t.Fatalf("box of %d: %v", id, b)
			}
			does(t, c, Op{Kind: opJoin, Node: id})
			if l := b.Binds(); len(l) != 2 || l[0].Inner != Addr(five(), id) || l[0].Until != hold || l[1].Until != hold {
				t.Errorf("box of %d: %v", id, l)
			}
		}
		if c.Net().Box(3) != nil {
			t.Error("a third box")
		}
	}
}

// P21.1: of a box just MaxBind bindings are.
func TestBoxesRoom(t *testing.T) {
	c := fresh(t)
	for i := range 70 {
		wantE(t, c.Net().Send(0, cat, addr.Addr{IP: uint32(i + 1), Port: 1}, "x"), api.OK)
		if got := len(c.Net().Box(1).Binds()); got != min(i+1, api.MaxBind) {
			t.Fatalf("%d bindings behind %d", got, i+1)
		}
	}
}

// P21.1: the hosts are the members, in their order, each behind its own box or none.
func TestHosts(t *testing.T) {
	c := fresh(t)
	froms := []addr.Addr{annAt, bobAt, {IP: 9<<24 + 3, Port: 20000}, {IP: 9<<24 + 4, Port: 20000}, eveAt}
	for i, from := range froms {
		wantE(t, c.Net().Send(0, i+1, zoe, "x"), api.OK)
		wantItems(t, c, bag.Item{From: from, To: zoe, Bytes: "x", At: 1})
		empty(c)
	}
	wantE(t, c.Net().Send(0, 6, zoe, "x"), api.ErrArg)
}

// P21.1: of Room just as many are under way.
func TestRoom(t *testing.T) {
	for _, room := range []int{1, 2, 255, 256} {
		c := made(t, with(func(s *Spec) { s.Room = room }))
		o := Op{Kind: opInject, From: zoe, To: annAt, Bytes: "x"}
		for range room {
			does(t, c, o)
		}
		stays(t, c, api.ErrFull, o)
	}
}

// P21.2: at first the time is 0, all are up, nothing is under way, and each told just of itself.
func TestNew(t *testing.T) {
	c := fresh(t)
	if c.Now() != 0 {
		t.Errorf("the time is %d", c.Now())
	}
	wantItems(t, c)
	for i, a := range []addr.Addr{annAt, bobAt, catAt, danAt, eveAt} {
		me := record.Record{ID: i + 1, State: record.Alive, Inc: 0, Addr: a}
		if !c.Up(i + 1) {
			t.Errorf("%d is not up", i+1)
		}
		if got := c.Node(i + 1).Me(); got != me {
			t.Errorf("%d is %v, want %v", i+1, got, me)
		}
		wantTold(t, c, i+1, me)
	}
}

// P21.2: of nothing there is no cluster (the chapter's example).
func TestNewOfNothing(t *testing.T) {
	if c, e := New(Spec{}); c != nil || e != api.ErrArg {
		t.Errorf("%v, %d", c, e)
	}
}

// P21.2: what a node tells to send is sent, in order, from its Inner, or through its box.
func TestSent(t *testing.T) {
	for i, from := range []addr.Addr{annAt, bobAt, {IP: 9<<24 + 3, Port: 20000}, {IP: 9<<24 + 4, Port: 20000}, eveAt} {
		c, n := fresh(t), handMade(t, byHand()[i])
		does(t, c, Op{Kind: opJoin, Node: i + 1})
		want := items(0, from, n.Join(0))
		if i+1 == cat || i+1 == dan {
			// They map by host, and to another one that is another port.
			want[1].From.Port++
		}
		wantItems(t, c, want...)
	}
}

// P21.2: what has no room is lost, and what is sent first has it.
func TestSentNoRoom(t *testing.T) {
	c := made(t, with(func(s *Spec) { s.Room = 3 }))
	n := handMade(t, byHand()[eve-1])
	l := items(0, eveAt, n.Join(0))
	does(t, c, Op{Kind: opJoin, Node: eve})
	does(t, c, Op{Kind: opJoin, Node: eve})
	wantItems(t, c, l[0], l[1], l[0])
	does(t, c, Op{Kind: opJoin, Node: eve})
	wantItems(t, c, l[0], l[1], l[0])
}

// P21.2: what has no room still has a box bind for it.
func TestSentNoRoomBox(t *testing.T) {
	c := made(t, with(func(s *Spec) { s.Room = 1 }))
	does(t, c, Op{Kind: opJoin, Node: cat})
	if c.Net().Bag().Len() != 1 || len(c.Net().Box(1).Binds()) != 2 {
		t.Errorf("%v, %v", c.Net().Bag().Items(), c.Net().Box(1).Binds())
	}
}

// news: a datagram from who that tells of r.
func news(t *testing.T, who int, r record.Record) string {
	t.Helper()
	s, ok := put(who, r)
	if !ok {
		t.Fatalf("no datagram of %v", r)
	}
	return s
}

// hears: that one takes at once what is told of r by bob.
func hears(t *testing.T, c *Cluster, id int, r record.Record) {
	t.Helper()
	empty(c)
	does(t, c, Op{Kind: opInject, From: zoe, To: Addr(five(), id), Bytes: news(t, bob, r)})
	c.now++
	does(t, c, Op{Kind: opDeliver})
}

// P21.2: a node is told each time that Me is another record, and no more often.
func TestTold(t *testing.T) {
	c := fresh(t)
	first := record.Record{ID: eve, Addr: eveAt}
	does(t, c, Op{Kind: opJoin, Node: eve})
	does(t, c, Op{Kind: opTick, Node: eve})
	does(t, c, Op{Kind: opPass})
	wantTold(t, c, eve, first)
	hears(t, c, eve, record.Record{ID: eve, State: record.Suspect, Inc: 4, Addr: zoe})
	second := record.Record{ID: eve, Inc: 5, Addr: eveAt}
	wantTold(t, c, eve, first, second)
	hears(t, c, eve, record.Record{ID: eve, State: record.Suspect, Inc: 4, Addr: zoe})
	does(t, c, Op{Kind: opTick, Node: eve})
	wantTold(t, c, eve, first, second)
	does(t, c, Op{Kind: opLeave, Node: eve})
	left := record.Record{ID: eve, State: record.Left, Inc: 5, Addr: eveAt}
	wantTold(t, c, eve, first, second, left)
	does(t, c, Op{Kind: opLeave, Node: eve})
	does(t, c, Op{Kind: opJoin, Node: eve})
	wantTold(t, c, eve, first, second, left)
	for id := ann; id <= dan; id++ {
		wantTold(t, c, id, record.Record{ID: id, Addr: Addr(five(), id)})
	}
}

// P21.2: who turned otherwise, by whoever's hand, is told once it does something, in its own turn.
func TestToldLate(t *testing.T) {
	c := fresh(t)
	mine := record.Record{ID: eve, Inc: 9, Addr: zoe}
	c.Node(eve).View().Take(mine)
	does(t, c, Op{Kind: opTick, Node: ann})
	wantTold(t, c, eve, record.Record{ID: eve, Addr: eveAt})
	does(t, c, Op{Kind: opPass})
	wantTold(t, c, eve, record.Record{ID: eve, Addr: eveAt}, mine)
}

// P3: the members that are handed in are not written into, and not kept.
func TestSpecStays(t *testing.T) {
	s := five()
	c, other := made(t, s), fresh(t)
	if !reflect.DeepEqual(s, five()) {
		t.Fatalf("%v, want %v", s, five())
	}
	for i := range s.Members {
		s.Members[i] = Member{Place: 9, Box: i == eve-1}
	}
	for id := ann; id <= eve; id++ {
		for _, o := range []Op{{Kind: opCrash}, {Kind: opRestart}, {Kind: opJoin}, {Kind: opTick}} {
			o.Node = id
			does(t, c, o)
			does(t, other, o)
		}
	}
	if got, want := stateOf(c), stateOf(other); !reflect.DeepEqual(got, want) {
		t.Errorf("%v, want %v", got, want)
	}
}

// P21.4: Now is the time.
func TestNow(t *testing.T) {
	c := fresh(t)
	for want := range uint64(20) {
		if got := c.Now(); got != want {
			t.Errorf("%d, want %d", got, want)
		}
		does(t, c, Op{Kind: opPass})
	}
}

// P21.4: Node and Net are the things themselves.
func TestThemselves(t *testing.T) {
	c := fresh(t)
	for id := ann; id <= eve; id++ {
		n := c.Node(id)
		if n == nil || n != c.Node(id) {
			t.Fatalf("%d: %v", id, n)
		}
		n.Take(0, zoe, "x")
		if c.Node(id).Bad() != 1 {
			t.Errorf("%d is a copy", id)
		}
	}
	if c.Net() == nil || c.Net() != c.Net() {
		t.Fatal("another net")
	}
	wantE(t, c.Net().Inject(0, zoe, annAt, "x"), api.OK)
	wantItems(t, c, bag.Item{From: zoe, To: annAt, Bytes: "x", At: 1})
	calm(c, 1)
	if c.Node(ann).Bad() != 2 {
		t.Error("the net is a copy")
	}
}

// P21.4, P6: of who is no member there is no node, it is not up, and told nothing.
func TestNoMember(t *testing.T) {
	c := fresh(t)
	for _, id := range notIDs(5) {
		if c.Node(id) != nil || c.Up(id) || len(c.Told(id)) != 0 {
			t.Errorf("%d: %v, %t, %v", id, c.Node(id), c.Up(id), c.Told(id))
		}
	}
}

// P3: what Told answers is new memory.
func TestToldNew(t *testing.T) {
	c := fresh(t)
	does(t, c, Op{Kind: opLeave, Node: eve})
	l := c.Told(eve)
	want := slices.Clone(l)
	clear(l)
	_ = append(l, record.Record{ID: 9})
	wantTold(t, c, eve, want...)
	m := append(c.Told(eve), record.Record{ID: 9})
	does(t, c, Op{Kind: opCrash, Node: eve})
	does(t, c, Op{Kind: opRestart, Node: eve})
	if m[2].ID != 9 {
		t.Errorf("%v", m)
	}
	wantTold(t, c, eve, want[0], want[1], record.Record{ID: eve, Inc: 1, Addr: eveAt})
}
