package judge

import (
	"slices"
	"testing"

	"scuttlebutt/api"
	"scuttlebutt/cluster"
	"scuttlebutt/draw"
	"scuttlebutt/node"
	"scuttlebutt/record"
	"scuttlebutt/rule"
	"scuttlebutt/wire"
)

// The kinds of ops that these tests name.
const (
	opPass    = 0
	opDeliver = 1
	opCrash   = 5
	opRestart = 6
	opJoin    = 8
	opLeave   = 9
	opInject  = 10
)

// plain: a cluster of so many, none behind a box, the first of them a seed; all joined.
func plain(t *testing.T, members int) *cluster.Cluster {
	t.Helper()
	c := made(t, cluster.Spec{Members: make([]cluster.Member, members), Seeds: 1, Draw: 1, Period: 5, Hold: 20, Fan: 2, Bind: 50, Room: 200})
	for id := 2; id <= members; id++ {
		c.Do(cluster.Op{Kind: opJoin, Node: id})
	}
	return c
}

// made: cluster.New, that must be OK.
func made(t *testing.T, s cluster.Spec) *cluster.Cluster {
	t.Helper()
	c, e := cluster.New(s)
	if c == nil || e != api.OK {
		t.Fatalf("New(%v): %d", s, e)
	}
	return c
}

// calm: so long all that is sent arrives, in order.
func calm(c *cluster.Cluster, ticks int) {
	for range ticks {
		c.Do(cluster.Op{Kind: opPass})
		for c.Net().Bag().Ready(c.Now()) > 0 {
			c.Do(cluster.Op{Kind: opDeliver})
		}
	}
}

// views: what each member knows.
func views(c *cluster.Cluster) [][]record.Record {
	var l [][]record.Record
	for id := 1; c.Node(id) != nil; id++ {
		l = append(l, c.Node(id).View().Members())
	}
	return l
}

// ups: who is up.
func ups(c *cluster.Cluster) []bool {
	var l []bool
	for id := 1; c.Node(id) != nil; id++ {
		l = append(l, c.Up(id))
	}
	return l
}

// allTold: what each member told of itself.
func allTold(c *cluster.Cluster) [][]record.Record {
	var l [][]record.Record
	for id := 1; c.Node(id) != nil; id++ {
		l = append(l, c.Told(id))
	}
	return l
}

// nodes: the nodes themselves.
func nodes(c *cluster.Cluster) []*node.Node {
	var l []*node.Node
	for id := 1; c.Node(id) != nil; id++ {
		l = append(l, c.Node(id))
	}
	return l
}

// wantAgree: nobody that is up may be wrong of another one.
func wantAgree(t *testing.T, c *cluster.Cluster, when string) {
	t.Helper()
	if l := Wrong(views(c), ups(c)); len(l) != 0 {
		t.Errorf("%s: %v", when, l)
	}
}

// In a calm who is there is thought alive, and who is not is thought dead: nobody is wrong in the end (P22.2; T4).
func TestCalm(t *testing.T) {
	c := plain(t, 6)
	if l := Wrong(views(c), ups(c)); len(l) == 0 {
		t.Error("at first nobody is wrong, though they know none but the seed")
	}
	calm(c, 40)
	wantAgree(t, c, "joined")
	c.Do(cluster.Op{Kind: opCrash, Node: 4})
	for _, id := range []int{1, 2, 3, 5, 6} {
		if l := Wrong(views(c), ups(c)); !slices.Contains(l, Pair{id, 4}) {
			t.Errorf("just crashed, and %d is not wrong: %v", id, l)
		}
	}
	calm(c, 120)
	wantAgree(t, c, "crashed")
	c.Do(cluster.Op{Kind: opRestart, Node: 4})
	c.Do(cluster.Op{Kind: opJoin, Node: 4})
	calm(c, 60)
	wantAgree(t, c, "restarted")
	if got := Text(c.Told(4)); got != "4:alive@0 4:alive@1" {
		t.Error(got)
	}
}

// boxed: a Spec that is drawn, with boxes.
func boxed(d *dice) cluster.Spec {
	n := 2 + d.throw(5)
	s := cluster.Spec{Members: make([]cluster.Member, n), Seeds: 1 + d.throw(min(2, n)), Draw: uint64(d.throw(1000)), Period: uint64(2 + d.throw(5)), Fan: 1 + d.throw(3), Bind: uint64(10 + d.throw(60)), Room: 60 + d.throw(150)}
	s.Hold = s.Period + uint64(d.throw(30))
	for i := s.Seeds; i < n; i++ {
		s.Members[i].Box = d.throw(2) == 0
		s.Members[i].Type = rule.Type{Map: d.throw(3), Filter: d.throw(3)}
	}
	return s
}

// step: what is done next: anything but that something is laid in from nowhere.
func step(d *dice) cluster.Op {
	o := cluster.Op{Kind: d.throw(13), Node: 1 + d.throw(7), Pick: d.throw(20), By: uint64(d.throw(9))}
	switch d.throw(8) {
	case 0, 1:
		o.Kind = opPass
	case 2, 3, 4, 5:
		o.Kind = opDeliver
	}
	if o.Kind == opInject || o.Kind == opLeave && d.throw(6) > 0 {
		o.Kind = opJoin
	}
	return o
}

// What a node knows only rises, step by step and from its beginning on, and all of it was told by whom it is of (P22.1, P22.4; T2).
func TestScripts(t *testing.T) {
	for seed := range uint64(60) {
		d := &dice{draw.New(seed)}
		c := made(t, boxed(d))
		begun, was, who := views(c), views(c), nodes(c)
		for i := range 300 {
			o := step(d)
			c.Do(o)
			now := views(c)
			for k := range now {
				if c.Node(k+1) != who[k] {
					// It began again, and knows nothing of what it was.
					who[k], begun[k], was[k] = c.Node(k+1), now[k], now[k]
				}
				if !Rises(was[k], now[k]) || !Rises(begun[k], now[k]) {
					t.Fatalf("seed %d, step %d, %v: %d knows %s, knew %s", seed, i, o, k+1, Text(now[k]), Text(was[k]))
				}
				if at := Stranger(now[k], allTold(c)); at != -1 {
					t.Fatalf("seed %d, step %d, %v: %d knows %s, the one at %d told nothing of it", seed, i, o, k+1, Text(now[k]), at)
				}
			}
			was = now
		}
	}
}

// Who nobody is, but that something that was laid in tells of, is a stranger; and so is who is told to be alive in an Inc that it did not tell (P22.1).
func TestLaidIn(t *testing.T) {
	for _, c := range []struct {
		r    record.Record
		want int
	}{
		{rec(2, suspect, 0), -1},
		{rec(2, dead, 0), -1},
		{rec(2, alive, 1), 1},
		{rec(2, dead, 1), 1},
		{rec(4, alive, 0), 3},
		{rec(4, left, 7), 3},
	} {
		world := plain(t, 3)
		calm(world, 40)
		if at := Stranger(world.Node(1).View().Members(), allTold(world)); at != -1 {
			t.Errorf("ahead of it: %d", at)
		}
		bytes, ok := wire.Put(wire.Msg{Kind: wire.Leave, From: 3, News: list(c.r)})
		if !ok {
			t.Fatal("Put")
		}
		from, to := world.Node(3).Me().Addr, world.Node(1).Me().Addr
		if e := world.Do(cluster.Op{Kind: opInject, From: from, To: to, Bytes: bytes}); e != api.OK {
			t.Fatal(e)
		}
		world.Do(cluster.Op{Kind: opPass})
		for world.Net().Bag().Ready(world.Now()) > 0 {
			world.Do(cluster.Op{Kind: opDeliver})
		}
		known := world.Node(1).View().Members()
		if at := Stranger(known, allTold(world)); at != c.want {
			t.Errorf("%v is laid in: %d, want %d of %s", c.r, at, c.want, Text(known))
		}
	}
}
