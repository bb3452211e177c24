package cluster

import (
	"math"
	"reflect"
	"slices"
	"strings"
	"testing"

	"scuttlebutt/addr"
	"scuttlebutt/api"
	"scuttlebutt/bag"
	"scuttlebutt/record"
	"scuttlebutt/wire"
)

// put: a datagram from who that tells of r, and asks for nothing.
func put(who int, r record.Record) (string, bool) {
	return wire.Put(wire.Msg{Kind: wire.Leave, From: who, News: []record.Record{r}})
}

// busy: a cluster of the five that has been going for a while, with something under way.
func busy(t *testing.T) *Cluster {
	t.Helper()
	c := fresh(t)
	for id := ann; id <= eve; id++ {
		does(t, c, Op{Kind: opJoin, Node: id})
	}
	calm(c, 30)
	for c.Net().Bag().Len() < 3 {
		does(t, c, Op{Kind: opPass})
	}
	return c
}

// P21.3: of another kind than 0 to 12 there is ErrArg, whatever else stands there.
func TestKinds(t *testing.T) {
	c := busy(t)
	for _, kind := range []int{-1, -2, -12, 13, 14, 26, 1 << 32, 1<<32 + 1, math.MaxInt, math.MinInt} {
		for _, id := range []int{0, ann, cat, 6} {
			stays(t, c, api.ErrArg, Op{Kind: kind, Node: id, By: 1, From: zoe, To: annAt, Bytes: "x"})
		}
	}
}

// P21.3: of what asks for a node there is ErrNone where there is no such member.
func TestNoNode(t *testing.T) {
	c := busy(t)
	for _, kind := range []int{opCrash, opRestart, opRebind, opJoin, opLeave, opTick} {
		for _, id := range notIDs(5) {
			stays(t, c, api.ErrNone, Op{Kind: kind, Node: id})
		}
	}
}

// P21.3: what asks for none takes no heed of Node.
func TestNodeUnasked(t *testing.T) {
	for _, id := range append(notIDs(5), ann, cat) {
		c, other := busy(t), busy(t)
		for _, o := range []Op{{Kind: opPass}, {Kind: opDeliver}, {Kind: opTwice}, {Kind: opDelay, By: 1}, {Kind: opDrop}, {Kind: opInject, From: zoe, To: annAt, Bytes: "x"}, {Kind: opRest}} {
			does(t, other, o)
			o.Node = id
			does(t, c, o)
		}
		if got, want := stateOf(c), stateOf(other); !reflect.DeepEqual(got, want) {
			t.Errorf("%d: %v, want %v", id, got, want)
		}
	}
}

// P21.3: 0 has time go on, and each that is up, rising, ticks, and sends.
func TestPass(t *testing.T) {
	c := fresh(t)
	does(t, c, Op{Kind: opCrash, Node: bob})
	does(t, c, Op{Kind: opPass})
	if c.Now() != 1 {
		t.Errorf("the time is %d", c.Now())
	}
	var want []bag.Item
	for _, id := range []int{ann, cat, dan, eve} {
		out := handMade(t, byHand()[id-1]).Tick(1)
		if len(out) == 0 {
			t.Fatalf("%d sends nothing", id)
		}
		want = append(want, items(1, Addr(five(), id), out)...)
	}
	got := c.Net().Bag().Items()
	if len(got) != len(want) {
		t.Fatalf("%v, want %v", got, want)
	}
	for i, x := range got {
		if from := want[i].From; from == catAt || from == danAt {
			want[i].From = addr.Addr{IP: from.IP - 1<<24, Port: x.From.Port}
		}
		if x != want[i] {
			t.Errorf("%d: %v, want %v", i, x, want[i])
		}
	}
}

// P21.3: the time is at most 2^61; the nodes still tick there.
func TestPassLatest(t *testing.T) {
	c := fresh(t)
	c.now = 1<<61 - 2
	for _, want := range []uint64{1<<61 - 1, 1 << 61, 1 << 61, 1 << 61} {
		does(t, c, Op{Kind: opPass})
		if c.Now() != want {
			t.Errorf("the time is %d, want %d", c.Now(), want)
		}
	}
	does(t, c, Op{Kind: opCrash, Node: eve})
	does(t, c, Op{Kind: opRestart, Node: eve})
	empty(c)
	does(t, c, Op{Kind: opPass})
	l := c.Net().Bag().Items()
	if len(l) == 0 || l[0].From != eveAt || l[0].At != 1<<61+1 {
		t.Errorf("%v", l)
	}
}

// P21.3: 1 delivers the one that is picked of those that are ready, and it is taken at that time, as from there.
func TestDeliver(t *testing.T) {
	for pick, want := range []int{ann, eve, bob, ann, eve, bob} {
		c := fresh(t)
		for _, to := range []addr.Addr{annAt, eveAt, bobAt} {
			does(t, c, Op{Kind: opInject, From: zoe, To: to, Bytes: "x"})
		}
		c.now = 1
		does(t, c, Op{Kind: opInject, From: zoe, To: danAt, Bytes: "x"})
		does(t, c, Op{Kind: opDeliver, Pick: pick})
		for id := ann; id <= eve; id++ {
			if got := c.Node(id).Bad() == 1; got != (id == want) {
				t.Errorf("pick %d: at %d %t", pick, id, got)
			}
		}
		if c.Net().Bag().Len() != 3 {
			t.Errorf("pick %d: %v", pick, c.Net().Bag().Items())
		}
	}
}

// P21.3: who takes something sends what it answers, to where that came from.
func TestDeliverAnswers(t *testing.T) {
	c, n := fresh(t), handMade(t, byHand()[ann-1])
	does(t, c, Op{Kind: opJoin, Node: cat})
	x := c.Net().Bag().Items()[0]
	c.now = 5
	does(t, c, Op{Kind: opDeliver})
	want := items(5, annAt, n.Take(5, x.From, x.Bytes))
	if len(want) != 1 || want[0].To != (addr.Addr{IP: 9<<24 + 3, Port: 20000}) {
		t.Fatalf("%v", want)
	}
	if l := c.Net().Bag().Items(); len(l) != 2 || l[1] != want[0] {
		t.Errorf("%v, want %v", l, want)
	}
}

// P21.3: 1 is the net's error: of a pick below 0, and of nothing that is ready.
func TestDeliverErrors(t *testing.T) {
	c := fresh(t)
	for _, pick := range minus() {
		stays(t, c, api.ErrArg, Op{Kind: opDeliver, Pick: pick})
	}
	stays(t, c, api.ErrNone, Op{Kind: opDeliver})
	does(t, c, Op{Kind: opInject, From: zoe, To: annAt, Bytes: "x"})
	stays(t, c, api.ErrNone, Op{Kind: opDeliver})
	stays(t, c, api.ErrNone, Op{Kind: opDeliver, Pick: math.MaxInt})
	for _, pick := range minus() {
		stays(t, c, api.ErrArg, Op{Kind: opDeliver, Pick: pick})
	}
	c.now = 1
	does(t, c, Op{Kind: opDeliver, Pick: math.MaxInt})
}

// P21.3: what arrives at one that is not up, or nowhere, is lost.
func TestDeliverLost(t *testing.T) {
	c := busy(t)
	does(t, c, Op{Kind: opCrash, Node: eve})
	empty(c)
	want := stateOf(c)
	for _, to := range []addr.Addr{eveAt, zoe, catAt, {IP: 9<<24 + 3, Port: 7}, {IP: 9<<24 + 9, Port: 20000}} {
		does(t, c, Op{Kind: opInject, From: zoe, To: to, Bytes: "x"})
		c.now++
		does(t, c, Op{Kind: opDeliver})
		c.now--
		if got := stateOf(c); !reflect.DeepEqual(got, want) {
			t.Errorf("to %v: %v, want %v", to, got, want)
		}
	}
}

// P21.3: what arrives behind a box is taken by who is there; and is lost where that one is not up.
func TestDeliverBox(t *testing.T) {
	c := busy(t)
	empty(c)
	in := addr.Addr{IP: 9<<24 + 3, Port: c.Net().Box(1).Binds()[0].Port}
	o := Op{Kind: opInject, From: c.Net().Box(1).Binds()[0].Met[0], To: in, Bytes: "x"}
	does(t, c, o)
	c.now++
	does(t, c, Op{Kind: opDeliver})
	if c.Node(cat).Bad() != 1 {
		t.Errorf("%d bad", c.Node(cat).Bad())
	}
	does(t, c, Op{Kind: opCrash, Node: cat})
	does(t, c, o)
	c.now++
	does(t, c, Op{Kind: opDeliver})
	if c.Node(cat).Bad() != 1 || c.Net().Box(1).Binds()[0].Until != c.Now()+50 {
		t.Errorf("%d bad, %v", c.Node(cat).Bad(), c.Net().Box(1).Binds())
	}
}

// three: a cluster with a, b and c under way, none of them ready, and room for one more.
func three(t *testing.T) *Cluster {
	t.Helper()
	c := made(t, with(func(s *Spec) { s.Room = 4 }))
	for _, x := range []string{"a", "b", "c"} {
		does(t, c, Op{Kind: opInject, From: zoe, To: annAt, Bytes: x})
	}
	return c
}

// wantWay: just these must be under way.
func wantWay(t *testing.T, c *Cluster, want string) {
	t.Helper()
	got := ""
	for _, x := range c.Net().Bag().Items() {
		got += x.Bytes
	}
	if got != want {
		t.Errorf("under way: %q, want %q", got, want)
	}
}

// P21.3: 2 drops the one that is picked of all.
func TestDrop(t *testing.T) {
	for pick, want := range []string{"bc", "ac", "ab", "bc"} {
		c := three(t)
		does(t, c, Op{Kind: opDrop, Pick: pick})
		wantWay(t, c, want)
	}
}

// P21.3: 3 makes it be under way twice.
func TestTwice(t *testing.T) {
	for pick, want := range []string{"abca", "abcb", "abcc", "abca"} {
		c := three(t)
		does(t, c, Op{Kind: opTwice, Pick: pick})
		wantWay(t, c, want)
		stays(t, c, api.ErrFull, Op{Kind: opTwice, Pick: pick})
	}
}

// P21.3: 4 delays it by By.
func TestDelay(t *testing.T) {
	for pick := range 5 {
		for _, by := range []uint64{0, 1, 100, 1<<62 - 2, 1 << 62, math.MaxUint64} {
			c := three(t)
			does(t, c, Op{Kind: opDelay, Pick: pick, By: by})
			wantWay(t, c, "abc")
			for i, x := range c.Net().Bag().Items() {
				want := uint64(1)
				if i == pick%3 {
					want = 1 + min(by, 1<<62-1)
				}
				if x.At != want {
					t.Errorf("pick %d by %d: %v", pick, by, x)
				}
			}
		}
	}
}

// P21.3: 2, 3 and 4 are the net's errors.
func TestWayErrors(t *testing.T) {
	c, none := three(t), fresh(t)
	for _, kind := range []int{opDrop, opTwice, opDelay} {
		for _, pick := range minus() {
			stays(t, c, api.ErrArg, Op{Kind: kind, Pick: pick, By: 1})
			stays(t, none, api.ErrArg, Op{Kind: kind, Pick: pick, By: 1})
		}
		stays(t, none, api.ErrNone, Op{Kind: kind, By: 1})
		stays(t, none, api.ErrNone, Op{Kind: kind, Pick: math.MaxInt, By: 1})
	}
}

// P21.3, P21.4: 5 has a node be up no more; it stays as it was, and does nothing.
func TestCrash(t *testing.T) {
	c := busy(t)
	want, n := stateOf(c), c.Node(cat)
	does(t, c, Op{Kind: opCrash, Node: cat})
	want.nodes[cat-1].up = false
	if got := stateOf(c); !reflect.DeepEqual(got, want) {
		t.Errorf("%v, want %v", got, want)
	}
	for _, kind := range []int{opCrash, opJoin, opLeave, opTick} {
		stays(t, c, api.ErrNone, Op{Kind: kind, Node: cat})
	}
	calm(c, 20)
	if c.Node(cat) != n || c.Up(cat) || !slices.Equal(c.Told(cat), want.nodes[cat-1].told) {
		t.Errorf("%v, %t, %v", c.Node(cat), c.Up(cat), c.Told(cat))
	}
	if got := stateOfNode(n, want.now); !reflect.DeepEqual(got.queue, want.nodes[cat-1].queue) || !reflect.DeepEqual(got.members, want.nodes[cat-1].members) {
		t.Errorf("%v, want %v", got, want.nodes[cat-1])
	}
	for _, id := range []int{ann, bob, dan, eve} {
		if !c.Up(id) {
			t.Errorf("%d is not up", id)
		}
	}
}

// P21.3: 6 has a member that is not up be a new node of its Config, of an Inc one more than it told last.
func TestRestart(t *testing.T) {
	c := busy(t)
	for id := ann; id <= eve; id++ {
		stays(t, c, api.ErrOld, Op{Kind: opRestart, Node: id})
		told, old := c.Told(id), c.Node(id)
		does(t, c, Op{Kind: opCrash, Node: id})
		way := c.Net().Bag().Items()
		does(t, c, Op{Kind: opRestart, Node: id})
		how := byHand()[id-1]
		how.Inc = told[len(told)-1].Inc + 1
		want := stateOfNode(handMade(t, how), c.Now())
		if got := stateOfNode(c.Node(id), c.Now()); !reflect.DeepEqual(got, want) {
			t.Errorf("%d: %v, want %v", id, got, want)
		}
		if !c.Up(id) || c.Node(id) == old {
			t.Errorf("%d: %t", id, c.Up(id))
		}
		wantTold(t, c, id, append(told, c.Node(id).Me())...)
		// It has joined nobody yet.
		wantItems(t, c, way...)
		stays(t, c, api.ErrOld, Op{Kind: opRestart, Node: id})
	}
}

// P21.3: who restarts draws as it did at first.
func TestRestartDraw(t *testing.T) {
	c, how := fresh(t), byHand()[eve-1]
	how.Inc = 1
	for range 9 {
		does(t, c, Op{Kind: opPass})
	}
	does(t, c, Op{Kind: opCrash, Node: eve})
	does(t, c, Op{Kind: opRestart, Node: eve})
	empty(c)
	n := handMade(t, how)
	for range 20 {
		does(t, c, Op{Kind: opTick, Node: eve})
		wantItems(t, c, items(c.now, eveAt, n.Tick(c.now))...)
		empty(c)
		c.now++
	}
}

// P21.3: one that left comes again, alive.
func TestRestartLeft(t *testing.T) {
	c := fresh(t)
	does(t, c, Op{Kind: opLeave, Node: eve})
	stays(t, c, api.ErrOld, Op{Kind: opRestart, Node: eve})
	does(t, c, Op{Kind: opCrash, Node: eve})
	does(t, c, Op{Kind: opRestart, Node: eve})
	wantTold(t, c, eve, record.Record{ID: eve, Addr: eveAt}, record.Record{ID: eve, State: record.Left, Addr: eveAt}, record.Record{ID: eve, Inc: 1, Addr: eveAt})
}

// P21.3: of who told of the greatest Inc there is ErrNone; of one below it that is the next one.
func TestRestartMost(t *testing.T) {
	c := fresh(t)
	hears(t, c, eve, record.Record{ID: eve, State: record.Dead, Inc: api.MaxInc - 2, Addr: eveAt})
	stays(t, c, api.ErrOld, Op{Kind: opRestart, Node: eve})
	does(t, c, Op{Kind: opCrash, Node: eve})
	does(t, c, Op{Kind: opRestart, Node: eve})
	if got, want := c.Node(eve).Me(), (record.Record{ID: eve, Inc: api.MaxInc, Addr: eveAt}); got != want {
		t.Errorf("%v, want %v", got, want)
	}
	stays(t, c, api.ErrOld, Op{Kind: opRestart, Node: eve})
	does(t, c, Op{Kind: opCrash, Node: eve})
	stays(t, c, api.ErrNone, Op{Kind: opRestart, Node: eve})
	stays(t, c, api.ErrNone, Op{Kind: opTick, Node: eve})
	does(t, c, Op{Kind: opCrash, Node: ann})
	does(t, c, Op{Kind: opRestart, Node: ann})
}

// P21.3: the Inc goes on from what was told, also where the node knew more of itself by then.
func TestRestartTold(t *testing.T) {
	c := fresh(t)
	c.Node(eve).View().Take(record.Record{ID: eve, Inc: api.MaxInc, Addr: eveAt})
	does(t, c, Op{Kind: opCrash, Node: eve})
	does(t, c, Op{Kind: opRestart, Node: eve})
	wantTold(t, c, eve, record.Record{ID: eve, Addr: eveAt}, record.Record{ID: eve, Inc: 1, Addr: eveAt})
}

// P21.3: 7 has a member's box begin anew, at the next IP.
func TestRebind(t *testing.T) {
	c := busy(t)
	if len(c.Net().Box(1).Binds()) == 0 || len(c.Net().Box(2).Binds()) == 0 {
		t.Fatal("nothing is bound")
	}
	want := stateOf(c)
	does(t, c, Op{Kind: opRebind, Node: cat})
	want.ips[0], want.binds[0] = 9<<24+1<<8+3, stateOf(c).binds[0]
	if got := stateOf(c); !reflect.DeepEqual(got, want) || len(got.binds[0]) != 0 {
		t.Errorf("%v, want %v", got, want)
	}
	does(t, c, Op{Kind: opRebind, Node: dan})
	want.ips[1], want.binds[1] = 9<<24+2<<8+4, stateOf(c).binds[1]
	if got := stateOf(c); !reflect.DeepEqual(got, want) || len(got.binds[1]) != 0 {
		t.Errorf("%v, want %v", got, want)
	}
}

// P21.3: 7 is ErrNone where there is no box, and then counts for nothing.
func TestRebindNone(t *testing.T) {
	c := busy(t)
	for _, id := range append(notIDs(5), ann, bob, eve) {
		stays(t, c, api.ErrNone, Op{Kind: opRebind, Node: id})
	}
	does(t, c, Op{Kind: opRebind, Node: dan})
	if got := c.Net().Box(2).IP(); got != 9<<24+1<<8+4 {
		t.Errorf("%x", got)
	}
}

// P21.3: how often boxes did so counts modulo 250, whichever they were.
func TestRebindModulo(t *testing.T) {
	c := fresh(t)
	for k := range uint32(760) {
		id, box := cat, 1
		if k%3 == 0 {
			id, box = dan, 2
		}
		does(t, c, Op{Kind: opRebind, Node: id})
		if got, want := c.Net().Box(box).IP(), 9<<24+(k%250+1)<<8+uint32(id); got != want {
			t.Fatalf("behind %d: %x, want %x", k, got, want)
		}
	}
}

// P21.3: a box begins anew also where it comes to the IP that it has.
func TestRebindSame(t *testing.T) {
	c := fresh(t)
	does(t, c, Op{Kind: opRebind, Node: cat})
	for range 249 {
		does(t, c, Op{Kind: opRebind, Node: dan})
	}
	does(t, c, Op{Kind: opJoin, Node: cat})
	does(t, c, Op{Kind: opRebind, Node: cat})
	if b := c.Net().Box(1); b.IP() != 9<<24+1<<8+3 || len(b.Binds()) != 0 {
		t.Errorf("%x, %v", b.IP(), b.Binds())
	}
}

// P21.3: the box of one that is not up begins anew too.
func TestRebindDown(t *testing.T) {
	c := fresh(t)
	does(t, c, Op{Kind: opCrash, Node: cat})
	does(t, c, Op{Kind: opRebind, Node: cat})
	if got := c.Net().Box(1).IP(); got != 9<<24+1<<8+3 {
		t.Errorf("%x", got)
	}
}

// P21.3: where the net refuses, that is its error, and counts for nothing.
func TestRebindTaken(t *testing.T) {
	c := fresh(t)
	wantE(t, c.Net().Rebind(2, 9<<24+1<<8+3), api.OK)
	stays(t, c, api.ErrArg, Op{Kind: opRebind, Node: cat})
	does(t, c, Op{Kind: opRebind, Node: dan})
	does(t, c, Op{Kind: opRebind, Node: cat})
	if x, y := c.Net().Box(1).IP(), c.Net().Box(2).IP(); x != 9<<24+2<<8+3 || y != 9<<24+1<<8+4 {
		t.Errorf("%x, %x", x, y)
	}
}

// P21.3: 8 is Join of the node, 9 Leave, 11 Tick: at that time, and what it tells is sent.
func TestByTime(t *testing.T) {
	for id := ann; id <= eve; id++ {
		c, n := fresh(t), handMade(t, byHand()[id-1])
		for now := range uint64(12) {
			for _, kind := range []int{opTick, opJoin, opTick, opLeave, opTick} {
				var want []bag.Item
				switch {
				case kind == opTick:
					want = items(now, addr.Addr{}, n.Tick(now))
				case kind == opJoin:
					want = items(now, addr.Addr{}, n.Join(now))
				case now == 10:
					want = items(now, addr.Addr{}, n.Leave(now))
				default:
					continue
				}
				does(t, c, Op{Kind: kind, Node: id})
				for i, x := range c.Net().Bag().Items() {
					if i < len(want) {
						want[i].From = x.From
					}
				}
				wantItems(t, c, want...)
				empty(c)
			}
			c.now++
		}
		if c.Node(id).Me().State != record.Left || !c.Up(id) {
			t.Errorf("%d: %v, %t", id, c.Node(id).Me(), c.Up(id))
		}
	}
}

// P21.3: 11 has that node tick alone, and time stand.
func TestTickAlone(t *testing.T) {
	c := fresh(t)
	want := stateOf(c)
	does(t, c, Op{Kind: opTick, Node: eve})
	got := stateOf(c)
	if len(got.items) == 0 || got.now != 0 {
		t.Errorf("%v", got)
	}
	for _, id := range []int{ann, bob, cat, dan} {
		if !reflect.DeepEqual(got.nodes[id-1], want.nodes[id-1]) {
			t.Errorf("%v, want %v", got.nodes[id-1], want.nodes[id-1])
		}
	}
}

// P21.3: 10 lays in what says that it comes from there.
func TestInject(t *testing.T) {
	c := fresh(t)
	c.now = 7
	does(t, c, Op{Kind: opInject, From: zoe, To: annAt, Bytes: "x"})
	does(t, c, Op{Kind: opInject, From: annAt, To: zoe, Bytes: strings.Repeat("y", api.MTU)})
	wantItems(t, c, bag.Item{From: zoe, To: annAt, Bytes: "x", At: 8}, bag.Item{From: annAt, To: zoe, Bytes: strings.Repeat("y", api.MTU), At: 8})
}

// P21.3: 10 is the net's error.
func TestInjectErrors(t *testing.T) {
	c := made(t, with(func(s *Spec) { s.Room = 1 }))
	for _, a := range []addr.Addr{{}, {IP: 1}, {Port: 1}} {
		stays(t, c, api.ErrArg, Op{Kind: opInject, From: a, To: annAt, Bytes: "x"})
		stays(t, c, api.ErrArg, Op{Kind: opInject, From: zoe, To: a, Bytes: "x"})
		stays(t, c, api.ErrArg, Op{Kind: opInject, From: a, To: a})
	}
	stays(t, c, api.ErrArg, Op{Kind: opInject})
	stays(t, c, api.ErrLong, Op{Kind: opInject, From: zoe, To: annAt})
	stays(t, c, api.ErrLong, Op{Kind: opInject, From: zoe, To: annAt, Bytes: strings.Repeat("y", api.MTU+1)})
	does(t, c, Op{Kind: opInject, From: zoe, To: annAt, Bytes: "x"})
	stays(t, c, api.ErrFull, Op{Kind: opInject, From: zoe, To: annAt, Bytes: "x"})
	stays(t, c, api.ErrLong, Op{Kind: opInject, From: zoe, To: annAt})
}

// P21.3: 12 does nothing, whatever else stands there.
func TestRest(t *testing.T) {
	c := busy(t)
	for _, id := range append(notIDs(5), ann, cat) {
		stays(t, c, api.OK, Op{Kind: opRest, Node: id, Pick: -1, By: 1, From: zoe, To: annAt, Bytes: "x"})
	}
}
