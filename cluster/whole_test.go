package cluster

import (
	"testing"

	"scuttlebutt/path"
	"scuttlebutt/record"
	"scuttlebutt/rule"
)

// knows: what that one knows of another one.
func knows(c *Cluster, id, of int) record.Record {
	r, _ := c.Node(id).View().Of(of)
	return r
}

// wantKnown: all of these must know that one to be as it told last.
func wantKnown(t *testing.T, c *Cluster, of int, ids ...int) {
	t.Helper()
	told := c.Told(of)
	for _, id := range ids {
		if r, want := knows(c, id, of), told[len(told)-1]; r != want || r.State != record.Alive {
			t.Errorf("%d knows %v, want %v", id, r, want)
		}
	}
}

// Three nodes join by a seed; each learns of the others (the document's first example).
func TestThreeJoin(t *testing.T) {
	s := Spec{Members: make([]Member, 4), Seeds: 1, Draw: 1, Period: 5, Hold: 20, Fan: 2, Bind: 50, Room: 100}
	c := made(t, s)
	for id := 2; id <= 4; id++ {
		does(t, c, Op{Kind: opJoin, Node: id})
	}
	calm(c, 40)
	for id := 1; id <= 4; id++ {
		wantKnown(t, c, id, 1, 2, 3, 4)
		if l := c.Node(id).View().Members(); len(l) != 4 {
			t.Errorf("%d knows %v", id, l)
		}
	}
}

// A node crashes: it is suspected, then thought dead; it comes again in a greater Inc (the second example; T4).
func TestCrashAndAgain(t *testing.T) {
	s := Spec{Members: make([]Member, 4), Seeds: 1, Draw: 1, Period: 5, Hold: 20, Fan: 2, Bind: 50, Room: 100}
	c := made(t, s)
	for id := 2; id <= 4; id++ {
		does(t, c, Op{Kind: opJoin, Node: id})
	}
	calm(c, 40)
	does(t, c, Op{Kind: opCrash, Node: 3})
	suspected := false
	for range 100 {
		calm(c, 1)
		suspected = suspected || knows(c, 1, 3).State == record.Suspect
	}
	if !suspected {
		t.Error("it was not suspected")
	}
	for _, id := range []int{1, 2, 4} {
		if r := knows(c, id, 3); r.State != record.Dead || r.Inc != 0 {
			t.Errorf("%d knows %v", id, r)
		}
		// One of them may have told of itself anew: nobody reached it while the dead one was asked to.
		wantKnown(t, c, id, 1, 2, 4)
	}
	does(t, c, Op{Kind: opRestart, Node: 3})
	does(t, c, Op{Kind: opJoin, Node: 3})
	calm(c, 40)
	if c.Node(3).Me().Inc < 1 {
		t.Errorf("%v", c.Node(3).Me())
	}
	for id := 1; id <= 4; id++ {
		wantKnown(t, c, id, 1, 2, 3, 4)
	}
}

// A node behind a box finds that nobody reaches it, leases a relay, and is told at the relay's address (the third example; T5).
func TestBehindBox(t *testing.T) {
	s := Spec{Members: []Member{{}, {Place: 9}, {Place: 8, Box: true, Type: rule.Type{Map: rule.Both, Filter: rule.Both}}, {}}, Seeds: 1, Draw: 1, Period: 5, Hold: 20, Fan: 2, Bind: 50, Room: 100}
	c := made(t, s)
	for id := 2; id <= 4; id++ {
		does(t, c, Op{Kind: opJoin, Node: id})
	}
	calm(c, 60)
	if c.Node(3).Class() != 2 || c.Node(2).Class() != 1 || c.Node(4).Class() != 1 {
		t.Errorf("classes %d, %d, %d", c.Node(2).Class(), c.Node(3).Class(), c.Node(4).Class())
	}
	if l := c.Node(3).Held(c.Now()); len(l) != 1 || l[0] != 1 {
		t.Errorf("it holds %v", l)
	}
	if got := c.Node(3).Me().Addr; got != Addr(s, 1) {
		t.Errorf("it is told at %v", got)
	}
	wantKnown(t, c, 3, 1, 2, 3, 4)
}

// punches: do two that are behind these find a path to one another, that is direct both ways?
func punches(t *testing.T, x, y rule.Type) bool {
	t.Helper()
	s := Spec{Members: []Member{{}, {Place: 1}, {Place: 2, Box: true, Type: x}, {Place: 3, Box: true, Type: y}}, Seeds: 2, Draw: 5, Period: 8, Hold: 60, Fan: 2, Bind: 100, Room: 256}
	c := made(t, s)
	does(t, c, Op{Kind: opJoin, Node: 3})
	does(t, c, Op{Kind: opJoin, Node: 4})
	for range 300 {
		calm(c, 1)
		if direct(c, 3, 4) && direct(c, 4, 3) {
			return true
		}
	}
	for id := 1; id <= 4; id++ {
		for of := 1; of <= 4; of++ {
			if r := knows(c, id, of); r.State != record.Alive {
				t.Errorf("%v, %v: %d knows %v", x, y, id, r)
			}
		}
	}
	return false
}

// direct: has that one a direct path to the other one?
func direct(c *Cluster, id, to int) bool {
	for _, p := range c.Node(id).Paths() {
		if p.Peer == to && p.State == path.Direct {
			return true
		}
	}
	return false
}

// Two boxes punch just as the relation of chapter 7 tells; where they don't, all are still thought alive (T5).
func TestPunch(t *testing.T) {
	for i := range 9 {
		for j := range 9 {
			x, y := rule.Type{Map: i / 3, Filter: i % 3}, rule.Type{Map: j / 3, Filter: j % 3}
			if got, want := punches(t, x, y), rule.Punch(x, y); got != want {
				t.Errorf("%s and %s: %t, want %t", rule.Word(x), rule.Word(y), got, want)
			}
		}
	}
}
